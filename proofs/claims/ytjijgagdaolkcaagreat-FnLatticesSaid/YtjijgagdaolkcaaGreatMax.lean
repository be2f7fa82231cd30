/- The program's reduceAt. -/
import Derived.Test.YtjijgagdaolkcaaGreatMas
import Derived.Test.YtjijgagdaolkcaaGreatMaf
import Derived.Test.YtjijgagdaolkcaaGreatMac
import Derived.Test.YtjijgagdaolkcaaGreatMab
import Derived.Test.YtjijgagdaolkcaaGreatMeet
import Derived.Test.YtjijgagdaolkcaaGreatOrd
import Derived.Deep.RegionHeld3
namespace Go.Proofs.YtjijgagdaolkcaaGreat
open Go Go.RowKit Go.Lib

theorem cells6 {w W : World} {a b c x y z : Int} {S T : TypeId} {A B : Nat} (h : Bk w A #[.int .i64 a, .int .i64 b, .int .i64 c] S) (k : Bk w B #[.int .i64 x, .int .i64 y, .int .i64 z] T) (hb : Below w.heap.size w W) :
    W.cell? ⟨A, 0, none⟩ = some (.int .i64 a) ∧ W.cell? ⟨A, 1, none⟩ = some (.int .i64 b) ∧ W.cell? ⟨A, 2, none⟩ = some (.int .i64 c) ∧ W.cell? ⟨B, 0, none⟩ = some (.int .i64 x) ∧ W.cell? ⟨B, 1, none⟩ = some (.int .i64 y) ∧ W.cell? ⟨B, 2, none⟩ = some (.int .i64 z) :=
  ⟨(h.below hb).cell 0 rfl, (h.below hb).cell 1 rfl, (h.below hb).cell 2 rfl, (k.below hb).cell 0 rfl, (k.below hb).cell 1 rfl, (k.below hb).cell 2 rfl⟩

set_option maxRecDepth 100000 in
set_option maxHeartbeats 4000000 in
theorem i_redat0 (x0 x1 x2 p0 p1 p2 : Int) (hp : 0 < p0) (hp2 : p0 ≤ 4000000000000000000) (hx : (-4000000000000000000 ≤ x0 ∧ x0 ≤ 4000000000000000000) ∧ (-4000000000000000000 ≤ x1 ∧ x1 ≤ 4000000000000000000) ∧ (-4000000000000000000 ≤ x2 ∧ x2 ≤ 4000000000000000000)) (hq : (-4000000000000000000 ≤ -(x0 / p0) * p0 ∧ -(x0 / p0) * p0 ≤ 4000000000000000000) ∧ (-4000000000000000000 ≤ -(x0 / p0) * p1 ∧ -(x0 / p0) * p1 ≤ 4000000000000000000) ∧ (-4000000000000000000 ≤ -(x0 / p0) * p2 ∧ -(x0 / p0) * p2 ≤ 4000000000000000000)) (w : World) :
    Calls Tryz.prog 72 #[.agg #[.int .i64 x0, .int .i64 x1, .int .i64 x2], .int .i64 0, .agg #[.int .i64 p0, .int .i64 p1, .int .i64 p2]] w (Arr w (x0 + -(x0 / p0) * p0) (x1 + -(x0 / p0) * p1) (x2 + -(x0 / p0) * p2)) := by
  have CQ := Lib.hid (fun W => i_quot x0 p0 hx.1.1 hx.1.2 hp hp2 W)
  have CT := Lib.hid (fun W => i_addt x0 x1 x2 (-(x0 / p0)) p0 p1 p2 W hx.1 hx.2.1 hx.2.2 hq.1 hq.2.1 hq.2.2)
  have hqb := floor_bd (x := x0) (X := 4000000000000000000) hp hx.1.1 hx.1.2
  have hqn : IntKind.i64.wrap (-(x0 / p0)) = -(x0 / p0) := IntWalk.i64_in _ (by omega)
  clear hqb hx hq hp hp2
  go_enter Tryz.func72, Tryz.ntmps72
  go_wp2
  refine wgen ?_
  intro W hW
  have H3 := Bk.three w #[.int .i64 x0, .int .i64 x1, .int .i64 x2] #[.int .i64 p0, .int .i64 p1, .int .i64 p2] #[.int .i64 0, .int .i64 0, .int .i64 0] 43 43 43
  have HB := below3 w (.cells #[.int .i64 x0, .int .i64 x1, .int .i64 x2] 43) (.cells #[.int .i64 p0, .int .i64 p1, .int .i64 p2] 43) (.cells #[.int .i64 0, .int .i64 0, .int .i64 0] 43)
  rw [← hW] at H3 HB
  have KX := Lib.hid H3.1
  have KP := Lib.hid H3.2.1
  have KR := Lib.hid H3.2.2
  have KB := Lib.hid HB
  clear hW H3 HB
  refine T_begin (z := fun k => 10 < k) (S := fun w' => w'.cell? ⟨w.heap.size, 0, none⟩ = some (.int .i64 x0) ∧ w'.cell? ⟨w.heap.size, 1, none⟩ = some (.int .i64 x1) ∧ w'.cell? ⟨w.heap.size, 2, none⟩ = some (.int .i64 x2) ∧ w'.cell? ⟨w.heap.size + 1, 0, none⟩ = some (.int .i64 p0) ∧ w'.cell? ⟨w.heap.size + 1, 1, none⟩ = some (.int .i64 p1) ∧ w'.cell? ⟨w.heap.size + 1, 2, none⟩ = some (.int .i64 p2)) (by kernel_rfl) ?_
  show wpAnyT _ _ _ _ _ _ 12 _ _ _
  have hS0 := Lib.hid (show (fun w' => w'.cell? ⟨w.heap.size, 0, none⟩ = some (.int .i64 x0) ∧ w'.cell? ⟨w.heap.size, 1, none⟩ = some (.int .i64 x1) ∧ w'.cell? ⟨w.heap.size, 2, none⟩ = some (.int .i64 x2) ∧ w'.cell? ⟨w.heap.size + 1, 0, none⟩ = some (.int .i64 p0) ∧ w'.cell? ⟨w.heap.size + 1, 1, none⟩ = some (.int .i64 p1) ∧ w'.cell? ⟨w.heap.size + 1, 2, none⟩ = some (.int .i64 p2)) W.drew from cells6 KX.out KP.out (Below.refl _ W).drew)
  refine T_take (i := 0) (v := .agg #[.int .i64 x0, .int .i64 x1, .int .i64 x2]) rfl (by kernel_rfl) (by kernel_rfl) (by kernel_rfl) (by kernel_rfl) (fun _ _ _ h => h) hS0.out rfl (fun w' hS' => by (try dsimp only at hS'); go_simp) ?_
  try simp only [Act.put, List.setIfInBounds_toArray]
  refine T_take (i := 1) (v := .int .i64 0) rfl (by kernel_rfl) (by kernel_rfl) (by kernel_rfl) (by kernel_rfl) (fun _ _ _ h => h) hS0.out rfl (fun w' hS' => by (try dsimp only at hS'); go_simp) ?_
  try simp only [Act.put]
  refine T_take (i := 2) (v := .pointer (some ⟨w.heap.size, 0, none⟩)) rfl (by kernel_rfl) (by kernel_rfl) (by kernel_rfl) (by kernel_rfl) (fun _ _ _ h => h) hS0.out rfl (fun w' hS' => by (try dsimp only at hS'); go_simp) ?_
  try simp only [Act.put]
  refine T_take (i := 3) (v := .int .i64 x0) rfl (by kernel_rfl) (by kernel_rfl) (by kernel_rfl) (by kernel_rfl) (fun _ _ _ h => h) hS0.out rfl (fun w' hS' => by (try dsimp only at hS'); go_simp) ?_
  try simp only [Act.put]
  refine T_take (i := 4) (v := .int .i64 0) rfl (by kernel_rfl) (by kernel_rfl) (by kernel_rfl) (by kernel_rfl) (fun _ _ _ h => h) hS0.out rfl (fun w' hS' => by (try dsimp only at hS'); go_simp) ?_
  try simp only [Act.put]
  refine T_take (i := 5) (v := .pointer (some ⟨w.heap.size + 1, 0, none⟩)) rfl (by kernel_rfl) (by kernel_rfl) (by kernel_rfl) (by kernel_rfl) (fun _ _ _ h => h) hS0.out rfl (fun w' hS' => by (try dsimp only at hS'); go_simp) ?_
  try simp only [Act.put]
  refine T_take (i := 6) (v := .int .i64 p0) rfl (by kernel_rfl) (by kernel_rfl) (by kernel_rfl) (by kernel_rfl) (fun _ _ _ h => h) hS0.out rfl (fun w' hS' => by (try dsimp only at hS'); go_simp) ?_
  try simp only [Act.put]
  refine T_take (i := 9) (v := .agg #[.int .i64 p0, .int .i64 p1, .int .i64 p2]) rfl (by kernel_rfl) (by kernel_rfl) (by kernel_rfl) (by kernel_rfl) (fun _ _ _ h => h) hS0.out rfl (fun w' hS' => by (try dsimp only at hS'); go_simp) ?_
  try simp only [Act.put]
  refine T_step (i := 7) rfl (by kernel_rfl) rfl rfl ?_
  intro K hK
  go_simp
  refine (CQ.out _).mono ?_
  rintro e w' ⟨rfl, rfl⟩
  refine hK.out _ _ hS0.out ?_
  clear hK K
  try simp only [Act.put, List.setIfInBounds_toArray, List.set_cons_zero, List.set_cons_succ]
  refine T_take (i := 8) (v := .int .i64 (-(x0 / p0))) rfl (by kernel_rfl) (by kernel_rfl) (by kernel_rfl) (by kernel_rfl) (fun _ _ _ h => h) hS0.out rfl (fun w' hS' => by (try dsimp only at hS'); go_simp) ?_
  try simp only [Act.put, List.setIfInBounds_toArray]
  refine T_step (i := 10) rfl (by kernel_rfl) rfl rfl ?_
  intro K hK
  go_simp
  refine (CT.out _).mono ?_
  rintro e V ⟨rfl, hb⟩
  have hb2 : Below W.heap.size W V := (Below.refl _ W).drew.trans hb
  have LR := Lib.hid (KR.out.below hb2)
  have LB := Lib.hid (KB.out.trans (hb2.mono KB.out.size))
  refine hK.out _ _ (cells6 KX.out KP.out hb2) ?_
  clear hK K hb hb2 hS0
  try simp only [Act.put, List.setIfInBounds_toArray, List.set_cons_zero, List.set_cons_succ]
  have c0 : V.cell? ⟨w.heap.size + 1 + 1, 0, none⟩ = some (.int .i64 0) := LR.out.cell 0 rfl
  have c1 : V.cell? ⟨w.heap.size + 1 + 1, 1, none⟩ = some (.int .i64 0) := LR.out.cell 1 rfl
  have c2 : V.cell? ⟨w.heap.size + 1 + 1, 2, none⟩ = some (.int .i64 0) := LR.out.cell 2 rfl
  have f0 := LR.out.free 0
  have f1 := LR.out.free 1
  have f2 := LR.out.free 2
  refine T_last (i := 11) rfl (by kernel_rfl) (by kernel_rfl) rfl rfl ?_
  go_simp
  go_wp2
  refine bodyPost_ret (v := .agg #[.int .i64 (x0 + -(x0 / p0) * p0), .int .i64 (x1 + -(x0 / p0) * p1), .int .i64 (x2 + -(x0 / p0) * p2)]) ?_ rfl ⟨rfl, (((LB.out.setCell (p := ⟨w.heap.size + 1 + 1, 0, none⟩) (by simp; omega) _).setCell (p := ⟨w.heap.size + 1 + 1, 1, none⟩) (by simp; omega) _).setCell (p := ⟨w.heap.size + 1 + 1, 2, none⟩) (by simp; omega) _)⟩
  simp [results, Tryz.results72, go_sem, c0, c1, c2]

set_option maxRecDepth 100000 in
set_option maxHeartbeats 4000000 in
theorem i_redat1 (x0 x1 x2 p0 p1 p2 : Int) (hp : 0 < p1) (hp2 : p1 ≤ 4000000000000000000) (hx : (-4000000000000000000 ≤ x0 ∧ x0 ≤ 4000000000000000000) ∧ (-4000000000000000000 ≤ x1 ∧ x1 ≤ 4000000000000000000) ∧ (-4000000000000000000 ≤ x2 ∧ x2 ≤ 4000000000000000000)) (hq : (-4000000000000000000 ≤ -(x1 / p1) * p0 ∧ -(x1 / p1) * p0 ≤ 4000000000000000000) ∧ (-4000000000000000000 ≤ -(x1 / p1) * p1 ∧ -(x1 / p1) * p1 ≤ 4000000000000000000) ∧ (-4000000000000000000 ≤ -(x1 / p1) * p2 ∧ -(x1 / p1) * p2 ≤ 4000000000000000000)) (w : World) :
    Calls Tryz.prog 72 #[.agg #[.int .i64 x0, .int .i64 x1, .int .i64 x2], .int .i64 1, .agg #[.int .i64 p0, .int .i64 p1, .int .i64 p2]] w (Arr w (x0 + -(x1 / p1) * p0) (x1 + -(x1 / p1) * p1) (x2 + -(x1 / p1) * p2)) := by
  have CQ := Lib.hid (fun W => i_quot x1 p1 hx.2.1.1 hx.2.1.2 hp hp2 W)
  have CT := Lib.hid (fun W => i_addt x0 x1 x2 (-(x1 / p1)) p0 p1 p2 W hx.1 hx.2.1 hx.2.2 hq.1 hq.2.1 hq.2.2)
  have hqb := floor_bd (x := x1) (X := 4000000000000000000) hp hx.2.1.1 hx.2.1.2
  have hqn : IntKind.i64.wrap (-(x1 / p1)) = -(x1 / p1) := IntWalk.i64_in _ (by omega)
  clear hqb hx hq hp hp2
  go_enter Tryz.func72, Tryz.ntmps72
  go_wp2
  refine wgen ?_
  intro W hW
  have H3 := Bk.three w #[.int .i64 x0, .int .i64 x1, .int .i64 x2] #[.int .i64 p0, .int .i64 p1, .int .i64 p2] #[.int .i64 0, .int .i64 0, .int .i64 0] 43 43 43
  have HB := below3 w (.cells #[.int .i64 x0, .int .i64 x1, .int .i64 x2] 43) (.cells #[.int .i64 p0, .int .i64 p1, .int .i64 p2] 43) (.cells #[.int .i64 0, .int .i64 0, .int .i64 0] 43)
  rw [← hW] at H3 HB
  have KX := Lib.hid H3.1
  have KP := Lib.hid H3.2.1
  have KR := Lib.hid H3.2.2
  have KB := Lib.hid HB
  clear hW H3 HB
  refine T_begin (z := fun k => 10 < k) (S := fun w' => w'.cell? ⟨w.heap.size, 0, none⟩ = some (.int .i64 x0) ∧ w'.cell? ⟨w.heap.size, 1, none⟩ = some (.int .i64 x1) ∧ w'.cell? ⟨w.heap.size, 2, none⟩ = some (.int .i64 x2) ∧ w'.cell? ⟨w.heap.size + 1, 0, none⟩ = some (.int .i64 p0) ∧ w'.cell? ⟨w.heap.size + 1, 1, none⟩ = some (.int .i64 p1) ∧ w'.cell? ⟨w.heap.size + 1, 2, none⟩ = some (.int .i64 p2)) (by kernel_rfl) ?_
  show wpAnyT _ _ _ _ _ _ 12 _ _ _
  have hS0 := Lib.hid (show (fun w' => w'.cell? ⟨w.heap.size, 0, none⟩ = some (.int .i64 x0) ∧ w'.cell? ⟨w.heap.size, 1, none⟩ = some (.int .i64 x1) ∧ w'.cell? ⟨w.heap.size, 2, none⟩ = some (.int .i64 x2) ∧ w'.cell? ⟨w.heap.size + 1, 0, none⟩ = some (.int .i64 p0) ∧ w'.cell? ⟨w.heap.size + 1, 1, none⟩ = some (.int .i64 p1) ∧ w'.cell? ⟨w.heap.size + 1, 2, none⟩ = some (.int .i64 p2)) W.drew from cells6 KX.out KP.out (Below.refl _ W).drew)
  refine T_take (i := 0) (v := .agg #[.int .i64 x0, .int .i64 x1, .int .i64 x2]) rfl (by kernel_rfl) (by kernel_rfl) (by kernel_rfl) (by kernel_rfl) (fun _ _ _ h => h) hS0.out rfl (fun w' hS' => by (try dsimp only at hS'); go_simp) ?_
  try simp only [Act.put, List.setIfInBounds_toArray]
  refine T_take (i := 1) (v := .int .i64 1) rfl (by kernel_rfl) (by kernel_rfl) (by kernel_rfl) (by kernel_rfl) (fun _ _ _ h => h) hS0.out rfl (fun w' hS' => by (try dsimp only at hS'); go_simp) ?_
  try simp only [Act.put]
  refine T_take (i := 2) (v := .pointer (some ⟨w.heap.size, 1, none⟩)) rfl (by kernel_rfl) (by kernel_rfl) (by kernel_rfl) (by kernel_rfl) (fun _ _ _ h => h) hS0.out rfl (fun w' hS' => by (try dsimp only at hS'); go_simp) ?_
  try simp only [Act.put]
  refine T_take (i := 3) (v := .int .i64 x1) rfl (by kernel_rfl) (by kernel_rfl) (by kernel_rfl) (by kernel_rfl) (fun _ _ _ h => h) hS0.out rfl (fun w' hS' => by (try dsimp only at hS'); go_simp) ?_
  try simp only [Act.put]
  refine T_take (i := 4) (v := .int .i64 1) rfl (by kernel_rfl) (by kernel_rfl) (by kernel_rfl) (by kernel_rfl) (fun _ _ _ h => h) hS0.out rfl (fun w' hS' => by (try dsimp only at hS'); go_simp) ?_
  try simp only [Act.put]
  refine T_take (i := 5) (v := .pointer (some ⟨w.heap.size + 1, 1, none⟩)) rfl (by kernel_rfl) (by kernel_rfl) (by kernel_rfl) (by kernel_rfl) (fun _ _ _ h => h) hS0.out rfl (fun w' hS' => by (try dsimp only at hS'); go_simp) ?_
  try simp only [Act.put]
  refine T_take (i := 6) (v := .int .i64 p1) rfl (by kernel_rfl) (by kernel_rfl) (by kernel_rfl) (by kernel_rfl) (fun _ _ _ h => h) hS0.out rfl (fun w' hS' => by (try dsimp only at hS'); go_simp) ?_
  try simp only [Act.put]
  refine T_take (i := 9) (v := .agg #[.int .i64 p0, .int .i64 p1, .int .i64 p2]) rfl (by kernel_rfl) (by kernel_rfl) (by kernel_rfl) (by kernel_rfl) (fun _ _ _ h => h) hS0.out rfl (fun w' hS' => by (try dsimp only at hS'); go_simp) ?_
  try simp only [Act.put]
  refine T_step (i := 7) rfl (by kernel_rfl) rfl rfl ?_
  intro K hK
  go_simp
  refine (CQ.out _).mono ?_
  rintro e w' ⟨rfl, rfl⟩
  refine hK.out _ _ hS0.out ?_
  clear hK K
  try simp only [Act.put, List.setIfInBounds_toArray, List.set_cons_zero, List.set_cons_succ]
  refine T_take (i := 8) (v := .int .i64 (-(x1 / p1))) rfl (by kernel_rfl) (by kernel_rfl) (by kernel_rfl) (by kernel_rfl) (fun _ _ _ h => h) hS0.out rfl (fun w' hS' => by (try dsimp only at hS'); go_simp) ?_
  try simp only [Act.put, List.setIfInBounds_toArray]
  refine T_step (i := 10) rfl (by kernel_rfl) rfl rfl ?_
  intro K hK
  go_simp
  refine (CT.out _).mono ?_
  rintro e V ⟨rfl, hb⟩
  have hb2 : Below W.heap.size W V := (Below.refl _ W).drew.trans hb
  have LR := Lib.hid (KR.out.below hb2)
  have LB := Lib.hid (KB.out.trans (hb2.mono KB.out.size))
  refine hK.out _ _ (cells6 KX.out KP.out hb2) ?_
  clear hK K hb hb2 hS0
  try simp only [Act.put, List.setIfInBounds_toArray, List.set_cons_zero, List.set_cons_succ]
  have c0 : V.cell? ⟨w.heap.size + 1 + 1, 0, none⟩ = some (.int .i64 0) := LR.out.cell 0 rfl
  have c1 : V.cell? ⟨w.heap.size + 1 + 1, 1, none⟩ = some (.int .i64 0) := LR.out.cell 1 rfl
  have c2 : V.cell? ⟨w.heap.size + 1 + 1, 2, none⟩ = some (.int .i64 0) := LR.out.cell 2 rfl
  have f0 := LR.out.free 0
  have f1 := LR.out.free 1
  have f2 := LR.out.free 2
  refine T_last (i := 11) rfl (by kernel_rfl) (by kernel_rfl) rfl rfl ?_
  go_simp
  go_wp2
  refine bodyPost_ret (v := .agg #[.int .i64 (x0 + -(x1 / p1) * p0), .int .i64 (x1 + -(x1 / p1) * p1), .int .i64 (x2 + -(x1 / p1) * p2)]) ?_ rfl ⟨rfl, (((LB.out.setCell (p := ⟨w.heap.size + 1 + 1, 0, none⟩) (by simp; omega) _).setCell (p := ⟨w.heap.size + 1 + 1, 1, none⟩) (by simp; omega) _).setCell (p := ⟨w.heap.size + 1 + 1, 2, none⟩) (by simp; omega) _)⟩
  simp [results, Tryz.results72, go_sem, c0, c1, c2]

set_option maxRecDepth 100000 in
set_option maxHeartbeats 4000000 in
theorem i_redat2 (x0 x1 x2 p0 p1 p2 : Int) (hp : 0 < p2) (hp2 : p2 ≤ 4000000000000000000) (hx : (-4000000000000000000 ≤ x0 ∧ x0 ≤ 4000000000000000000) ∧ (-4000000000000000000 ≤ x1 ∧ x1 ≤ 4000000000000000000) ∧ (-4000000000000000000 ≤ x2 ∧ x2 ≤ 4000000000000000000)) (hq : (-4000000000000000000 ≤ -(x2 / p2) * p0 ∧ -(x2 / p2) * p0 ≤ 4000000000000000000) ∧ (-4000000000000000000 ≤ -(x2 / p2) * p1 ∧ -(x2 / p2) * p1 ≤ 4000000000000000000) ∧ (-4000000000000000000 ≤ -(x2 / p2) * p2 ∧ -(x2 / p2) * p2 ≤ 4000000000000000000)) (w : World) :
    Calls Tryz.prog 72 #[.agg #[.int .i64 x0, .int .i64 x1, .int .i64 x2], .int .i64 2, .agg #[.int .i64 p0, .int .i64 p1, .int .i64 p2]] w (Arr w (x0 + -(x2 / p2) * p0) (x1 + -(x2 / p2) * p1) (x2 + -(x2 / p2) * p2)) := by
  have CQ := Lib.hid (fun W => i_quot x2 p2 hx.2.2.1 hx.2.2.2 hp hp2 W)
  have CT := Lib.hid (fun W => i_addt x0 x1 x2 (-(x2 / p2)) p0 p1 p2 W hx.1 hx.2.1 hx.2.2 hq.1 hq.2.1 hq.2.2)
  have hqb := floor_bd (x := x2) (X := 4000000000000000000) hp hx.2.2.1 hx.2.2.2
  have hqn : IntKind.i64.wrap (-(x2 / p2)) = -(x2 / p2) := IntWalk.i64_in _ (by omega)
  clear hqb hx hq hp hp2
  go_enter Tryz.func72, Tryz.ntmps72
  go_wp2
  refine wgen ?_
  intro W hW
  have H3 := Bk.three w #[.int .i64 x0, .int .i64 x1, .int .i64 x2] #[.int .i64 p0, .int .i64 p1, .int .i64 p2] #[.int .i64 0, .int .i64 0, .int .i64 0] 43 43 43
  have HB := below3 w (.cells #[.int .i64 x0, .int .i64 x1, .int .i64 x2] 43) (.cells #[.int .i64 p0, .int .i64 p1, .int .i64 p2] 43) (.cells #[.int .i64 0, .int .i64 0, .int .i64 0] 43)
  rw [← hW] at H3 HB
  have KX := Lib.hid H3.1
  have KP := Lib.hid H3.2.1
  have KR := Lib.hid H3.2.2
  have KB := Lib.hid HB
  clear hW H3 HB
  refine T_begin (z := fun k => 10 < k) (S := fun w' => w'.cell? ⟨w.heap.size, 0, none⟩ = some (.int .i64 x0) ∧ w'.cell? ⟨w.heap.size, 1, none⟩ = some (.int .i64 x1) ∧ w'.cell? ⟨w.heap.size, 2, none⟩ = some (.int .i64 x2) ∧ w'.cell? ⟨w.heap.size + 1, 0, none⟩ = some (.int .i64 p0) ∧ w'.cell? ⟨w.heap.size + 1, 1, none⟩ = some (.int .i64 p1) ∧ w'.cell? ⟨w.heap.size + 1, 2, none⟩ = some (.int .i64 p2)) (by kernel_rfl) ?_
  show wpAnyT _ _ _ _ _ _ 12 _ _ _
  have hS0 := Lib.hid (show (fun w' => w'.cell? ⟨w.heap.size, 0, none⟩ = some (.int .i64 x0) ∧ w'.cell? ⟨w.heap.size, 1, none⟩ = some (.int .i64 x1) ∧ w'.cell? ⟨w.heap.size, 2, none⟩ = some (.int .i64 x2) ∧ w'.cell? ⟨w.heap.size + 1, 0, none⟩ = some (.int .i64 p0) ∧ w'.cell? ⟨w.heap.size + 1, 1, none⟩ = some (.int .i64 p1) ∧ w'.cell? ⟨w.heap.size + 1, 2, none⟩ = some (.int .i64 p2)) W.drew from cells6 KX.out KP.out (Below.refl _ W).drew)
  refine T_take (i := 0) (v := .agg #[.int .i64 x0, .int .i64 x1, .int .i64 x2]) rfl (by kernel_rfl) (by kernel_rfl) (by kernel_rfl) (by kernel_rfl) (fun _ _ _ h => h) hS0.out rfl (fun w' hS' => by (try dsimp only at hS'); go_simp) ?_
  try simp only [Act.put, List.setIfInBounds_toArray]
  refine T_take (i := 1) (v := .int .i64 2) rfl (by kernel_rfl) (by kernel_rfl) (by kernel_rfl) (by kernel_rfl) (fun _ _ _ h => h) hS0.out rfl (fun w' hS' => by (try dsimp only at hS'); go_simp) ?_
  try simp only [Act.put]
  refine T_take (i := 2) (v := .pointer (some ⟨w.heap.size, 2, none⟩)) rfl (by kernel_rfl) (by kernel_rfl) (by kernel_rfl) (by kernel_rfl) (fun _ _ _ h => h) hS0.out rfl (fun w' hS' => by (try dsimp only at hS'); go_simp) ?_
  try simp only [Act.put]
  refine T_take (i := 3) (v := .int .i64 x2) rfl (by kernel_rfl) (by kernel_rfl) (by kernel_rfl) (by kernel_rfl) (fun _ _ _ h => h) hS0.out rfl (fun w' hS' => by (try dsimp only at hS'); go_simp) ?_
  try simp only [Act.put]
  refine T_take (i := 4) (v := .int .i64 2) rfl (by kernel_rfl) (by kernel_rfl) (by kernel_rfl) (by kernel_rfl) (fun _ _ _ h => h) hS0.out rfl (fun w' hS' => by (try dsimp only at hS'); go_simp) ?_
  try simp only [Act.put]
  refine T_take (i := 5) (v := .pointer (some ⟨w.heap.size + 1, 2, none⟩)) rfl (by kernel_rfl) (by kernel_rfl) (by kernel_rfl) (by kernel_rfl) (fun _ _ _ h => h) hS0.out rfl (fun w' hS' => by (try dsimp only at hS'); go_simp) ?_
  try simp only [Act.put]
  refine T_take (i := 6) (v := .int .i64 p2) rfl (by kernel_rfl) (by kernel_rfl) (by kernel_rfl) (by kernel_rfl) (fun _ _ _ h => h) hS0.out rfl (fun w' hS' => by (try dsimp only at hS'); go_simp) ?_
  try simp only [Act.put]
  refine T_take (i := 9) (v := .agg #[.int .i64 p0, .int .i64 p1, .int .i64 p2]) rfl (by kernel_rfl) (by kernel_rfl) (by kernel_rfl) (by kernel_rfl) (fun _ _ _ h => h) hS0.out rfl (fun w' hS' => by (try dsimp only at hS'); go_simp) ?_
  try simp only [Act.put]
  refine T_step (i := 7) rfl (by kernel_rfl) rfl rfl ?_
  intro K hK
  go_simp
  refine (CQ.out _).mono ?_
  rintro e w' ⟨rfl, rfl⟩
  refine hK.out _ _ hS0.out ?_
  clear hK K
  try simp only [Act.put, List.setIfInBounds_toArray, List.set_cons_zero, List.set_cons_succ]
  refine T_take (i := 8) (v := .int .i64 (-(x2 / p2))) rfl (by kernel_rfl) (by kernel_rfl) (by kernel_rfl) (by kernel_rfl) (fun _ _ _ h => h) hS0.out rfl (fun w' hS' => by (try dsimp only at hS'); go_simp) ?_
  try simp only [Act.put, List.setIfInBounds_toArray]
  refine T_step (i := 10) rfl (by kernel_rfl) rfl rfl ?_
  intro K hK
  go_simp
  refine (CT.out _).mono ?_
  rintro e V ⟨rfl, hb⟩
  have hb2 : Below W.heap.size W V := (Below.refl _ W).drew.trans hb
  have LR := Lib.hid (KR.out.below hb2)
  have LB := Lib.hid (KB.out.trans (hb2.mono KB.out.size))
  refine hK.out _ _ (cells6 KX.out KP.out hb2) ?_
  clear hK K hb hb2 hS0
  try simp only [Act.put, List.setIfInBounds_toArray, List.set_cons_zero, List.set_cons_succ]
  have c0 : V.cell? ⟨w.heap.size + 1 + 1, 0, none⟩ = some (.int .i64 0) := LR.out.cell 0 rfl
  have c1 : V.cell? ⟨w.heap.size + 1 + 1, 1, none⟩ = some (.int .i64 0) := LR.out.cell 1 rfl
  have c2 : V.cell? ⟨w.heap.size + 1 + 1, 2, none⟩ = some (.int .i64 0) := LR.out.cell 2 rfl
  have f0 := LR.out.free 0
  have f1 := LR.out.free 1
  have f2 := LR.out.free 2
  refine T_last (i := 11) rfl (by kernel_rfl) (by kernel_rfl) rfl rfl ?_
  go_simp
  go_wp2
  refine bodyPost_ret (v := .agg #[.int .i64 (x0 + -(x2 / p2) * p0), .int .i64 (x1 + -(x2 / p2) * p1), .int .i64 (x2 + -(x2 / p2) * p2)]) ?_ rfl ⟨rfl, (((LB.out.setCell (p := ⟨w.heap.size + 1 + 1, 0, none⟩) (by simp; omega) _).setCell (p := ⟨w.heap.size + 1 + 1, 1, none⟩) (by simp; omega) _).setCell (p := ⟨w.heap.size + 1 + 1, 2, none⟩) (by simp; omega) _)⟩
  simp [results, Tryz.results72, go_sem, c0, c1, c2]
end Go.Proofs.YtjijgagdaolkcaaGreat
/- The program's clearBelow. -/
namespace Go.Proofs.YtjijgagdaolkcaaGreat
open Go.RowKit Go.Lib

/-- How great the number in a cell is. -/
def rdC (w : World) (b o : Nat) : Nat := match w.cell? ⟨b, o, none⟩ with
  | some x => (RowKit.intOf x).natAbs
  | none => 0
theorem rdC_of {w : World} {b o : Nat} {x : Int} (h : w.cell? ⟨b, o, none⟩ = some (.int .i64 x)) : rdC w b o = x.natAbs := by
  unfold rdC
  rw [h]; rfl
/-- What clearBelow leaves. -/
def ClearP (c : Nat) (z : List (List Int)) (w : World) (e : Ending) (w' : World) : Prop :=
  ∃ y0 y1 y2 y3 y4 y5 y6 y7 y8 : Int, negH c (pairsH c z (2 - c)) = [[y0, y1, y2], [y3, y4, y5], [y6, y7, y8]] ∧ e = .returned (.agg #[.int .i64 y0, .int .i64 y1, .int .i64 y2, .int .i64 y3, .int .i64 y4, .int .i64 y5, .int .i64 y6, .int .i64 y7, .int .i64 y8]) ∧ Below w.heap.size w w'
theorem bd_three {x y z K : Int} (h : Bd [x, y, z] K) : (-K ≤ x ∧ x ≤ K) ∧ (-K ≤ y ∧ y ≤ K) ∧ (-K ≤ z ∧ z ≤ K) := ⟨h 0 (by simp), h 1 (by simp), h 2 (by simp)⟩
theorem tdiv_bd3 {x g M : Int} (h1 : -M ≤ x) (h2 : x ≤ M) : -M ≤ x.tdiv g ∧ x.tdiv g ≤ M := by
  have h := Int.natAbs_tdiv_le_natAbs x g
  generalize x.tdiv g = q at *
  omega
theorem next_three (c : Nat) (u0 u1 u2 v0 v1 v2 q : Int) (h : (colA c [u0, u1, u2]).tdiv (colA c [v0, v1, v2]) = q) : nextR c [u0, u1, u2] [v0, v1, v2] = [u0 + -q * v0, u1 + -q * v1, u2 + -q * v2] := by
  unfold nextR
  rw [h]
  simp only [lessL, scaleL, List.map_cons, List.map_nil, List.zipWith_cons_cons, List.zipWith_nil_left, List.cons.injEq, and_true]
  refine ⟨by grind, by grind, by grind⟩

set_option maxRecDepth 100000 in
set_option maxHeartbeats 8000000 in
theorem i_clear0 (x0 x1 x2 x3 x4 x5 x6 x7 x8 : Int) (w : World) (hE : ∀ j, 0 + 1 + j < 3 → ∃ A : Int, Eu 0 3 80400000000 A ((pairsH 0 [[x0, x1, x2], [x3, x4, x5], [x6, x7, x8]] j).getD 0 []) ((pairsH 0 [[x0, x1, x2], [x3, x4, x5], [x6, x7, x8]] j).getD (0 + 1 + j) [])) (hB : ∀ u, (pairsH 0 [[x0, x1, x2], [x3, x4, x5], [x6, x7, x8]] (2 - 0))[0]? = some u → Bd u 400000000000000000) :
    Calls Tryz.prog 60 #[.agg #[.int .i64 x0, .int .i64 x1, .int .i64 x2, .int .i64 x3, .int .i64 x4, .int .i64 x5, .int .i64 x6, .int .i64 x7, .int .i64 x8], .int .i64 0] w (ClearP 0 [[x0, x1, x2], [x3, x4, x5], [x6, x7, x8]] w) := by
  have HE := Lib.hid hE
  have HB := Lib.hid hB
  clear hE hB
  have HZ0 := Lib.hid (show pairsH 0 [[x0, x1, x2], [x3, x4, x5], [x6, x7, x8]] 0 = [[x0, x1, x2], [x3, x4, x5], [x6, x7, x8]] from rfl)
  go_enter Tryz.func60, Tryz.ntmps60
  go_wp2
  refine wp_loop_rounds 3 ?_
  rw [rounds_succ]
  go_wp2
  obtain ⟨A0, hEu⟩ := HE.out 0 (by omega)
  rw [HZ0.out] at hEu
  have HEu0 := Lib.hid (show Eu 0 3 80400000000 A0 [x0, x1, x2] [x3, x4, x5] from hEu)
  clear hEu
  go_loopw [] (fun wr => ∃ u00 u01 u02 v00 v01 v02 : Int, Eu 0 3 80400000000 A0 [u00, u01, u02] [v00, v01, v02] ∧ eucl 0 [u00, u01, u02] [v00, v01, v02] = eucl 0 [x0, x1, x2] [x3, x4, x5] ∧ (G9 wr w.heap.size 45 u00 u01 u02 v00 v01 v02 x6 x7 x8 ∧ G9 wr (w.heap.size + 1) 45 0 0 0 0 0 0 0 0 0) ∧ Below w.heap.size w wr) (fun wr => rdC wr w.heap.size 3)
  case atStart => exact ⟨_, _, _, _, _, _, HEu0.out, rfl, ⟨(G9.new w 45 x0 x1 x2 x3 x4 x5 x6 x7 x8).below ((Below.refl _ _).alloc (Nat.le_refl _) (.cells #[.int .i64 0, .int .i64 0, .int .i64 0, .int .i64 0, .int .i64 0, .int .i64 0, .int .i64 0, .int .i64 0, .int .i64 0] 45)), G9.newAt (w := w.alloc (.cells #[.int .i64 x0, .int .i64 x1, .int .i64 x2, .int .i64 x3, .int .i64 x4, .int .i64 x5, .int .i64 x6, .int .i64 x7, .int .i64 x8] 45)) (B := w.heap.size + 1) (by simp) 45 0 0 0 0 0 0 0 0 0⟩, ((Below.refl w.heap.size w).alloc (Nat.le_refl _) _).alloc (by simp) _⟩
  case round =>
    obtain ⟨u00, u01, u02, v00, v01, v02, he, hq, ⟨hx, hr⟩, hbr⟩ := hrel
    rename World => W0
    have HX := Lib.hid hx
    have HR := Lib.hid hr
    have HBw := Lib.hid hbr
    have HEu := Lib.hid he
    have HQ := Lib.hid hq
    clear hx hr hbr he hq
    obtain ⟨⟨l0, l1, l2⟩, ⟨l3, l4, l5⟩, l6, l7, l8⟩ := HX.out.cells
    have HRD := Lib.hid (rdC_of l3)
    have hxl := HX.out.lt
    by_cases hv : v00 = 0
    · subst hv
      have e2 := HQ.out
      rw [eucl_end (show colA 0 [0, v01, v02] = 0 from rfl)] at e2
      have HZ1 := Lib.hid (show pairsH 0 [[x0, x1, x2], [x3, x4, x5], [x6, x7, x8]] 1 = [[u00, u01, u02], [0, v01, v02], [x6, x7, x8]] by
        show pairH 0 1 (pairsH 0 [[x0, x1, x2], [x3, x4, x5], [x6, x7, x8]] 0) = _
        rw [HZ0.out]
        unfold pairH
        rw [show ([[x0, x1, x2], [x3, x4, x5], [x6, x7, x8]] : List (List Int)).getD 0 [] = [x0, x1, x2] from rfl, show ([[x0, x1, x2], [x3, x4, x5], [x6, x7, x8]] : List (List Int)).getD 1 [] = [x3, x4, x5] from rfl, ← e2]
        rfl)
      clear e2 HQ HEu HRD HEu0
      go_wp2
      clear l0 l1 l2 l3 l4 l5 l6 l7 l8 hxl
      rw [rounds_succ]
      go_wp2
      obtain ⟨A1, hEu⟩ := HE.out 1 (by omega)
      rw [HZ1.out] at hEu
      have HEu1 := Lib.hid (show Eu 0 3 80400000000 A1 [u00, u01, u02] [x6, x7, x8] from hEu)
      clear hEu
      go_loopw [] (fun wr => ∃ u10 u11 u12 v10 v11 v12 : Int, Eu 0 3 80400000000 A1 [u10, u11, u12] [v10, v11, v12] ∧ eucl 0 [u10, u11, u12] [v10, v11, v12] = eucl 0 [u00, u01, u02] [x6, x7, x8] ∧ (G9 wr w.heap.size 45 u10 u11 u12 0 v01 v02 v10 v11 v12 ∧ G9 wr (w.heap.size + 1) 45 0 0 0 0 0 0 0 0 0) ∧ Below w.heap.size w wr) (fun wr => rdC wr w.heap.size 6)
      case atStart => exact ⟨_, _, _, _, _, _, HEu1.out, rfl, ⟨HX.out, HR.out⟩, HBw.out⟩
      case round =>
        clear HX HR HBw
        obtain ⟨u10, u11, u12, v10, v11, v12, he, hq, ⟨hx, hr⟩, hbr⟩ := hrel
        rename World => W0
        have HX := Lib.hid hx
        have HR := Lib.hid hr
        have HBw := Lib.hid hbr
        have HEu := Lib.hid he
        have HQ := Lib.hid hq
        clear hx hr hbr he hq
        obtain ⟨⟨l0, l1, l2⟩, ⟨l3, l4, l5⟩, l6, l7, l8⟩ := HX.out.cells
        have HRD := Lib.hid (rdC_of l6)
        have hxl := HX.out.lt
        by_cases hv : v10 = 0
        · subst hv
          have e2 := HQ.out
          rw [eucl_end (show colA 0 [0, v11, v12] = 0 from rfl)] at e2
          have HZ2 := Lib.hid (show pairsH 0 [[x0, x1, x2], [x3, x4, x5], [x6, x7, x8]] 2 = [[u10, u11, u12], [0, v01, v02], [0, v11, v12]] by
            show pairH 0 2 (pairsH 0 [[x0, x1, x2], [x3, x4, x5], [x6, x7, x8]] 1) = _
            rw [HZ1.out]
            unfold pairH
            rw [show ([[u00, u01, u02], [0, v01, v02], [x6, x7, x8]] : List (List Int)).getD 0 [] = [u00, u01, u02] from rfl, show ([[u00, u01, u02], [0, v01, v02], [x6, x7, x8]] : List (List Int)).getD 2 [] = [x6, x7, x8] from rfl, ← e2]
            rfl)
          clear e2 HQ HEu HRD HEu1
          go_wp2
          clear l0 l1 l2 l3 l4 l5 l6 l7 l8 hxl
          rw [rounds_succ]
          have hb3 := bd_three (HB.out [u10, u11, u12] (by rw [HZ2.out]; rfl))
          obtain ⟨⟨h1, h2⟩, ⟨h3, h4⟩, h5, h6⟩ := hb3
          by_cases hneg : u10 < 0
          · have hn2 : negH 0 [[u10, u11, u12], [0, v01, v02], [0, v11, v12]] = [[-1 * u10, -1 * u11, -1 * u12], [0, v01, v02], [0, v11, v12]] := by
              unfold negH
              rw [show ([[u10, u11, u12], [0, v01, v02], [0, v11, v12]] : List (List Int)).getD 0 [] = [u10, u11, u12] from rfl, if_pos (show colA 0 [u10, u11, u12] < 0 from hneg)]
              simp [scaleL, Int.mul_comm]
            have HN2 := Lib.hid hn2
            clear hn2
            obtain ⟨⟨l0, l1, l2⟩, ⟨l3, l4, l5⟩, l6, l7, l8⟩ := HX.out.cells
            go_wp2_with fail
            refine (i_addz (-1) u10 u11 u12 _ (by omega) (by omega) (by omega)).mono ?_
            rintro e V ⟨rfl, hb⟩
            have KX := Lib.hid (HX.out.below hb)
            have KR := Lib.hid (HR.out.below hb)
            have KB := Lib.hid (HBw.out.trans (hb.mono HBw.out.size))
            clear hb l0 l1 l2 l3 l4 l5 l6 l7 l8
            obtain ⟨⟨l0, l1, l2⟩, ⟨l3, l4, l5⟩, l6, l7, l8⟩ := KX.out.cells
            have fx0 := KX.out.frozen 0
            have fx1 := KX.out.frozen 1
            have fx2 := KX.out.frozen 2
            obtain ⟨⟨j0, j1, j2⟩, ⟨j3, j4, j5⟩, j6, j7, j8⟩ := KR.out.cells
            have f0 := KR.out.frozen 0
            have f1 := KR.out.frozen 1
            have f2 := KR.out.frozen 2
            have f3 := KR.out.frozen 3
            have f4 := KR.out.frozen 4
            have f5 := KR.out.frozen 5
            have f6 := KR.out.frozen 6
            have f7 := KR.out.frozen 7
            have f8 := KR.out.frozen 8
            go_wp2
            refine bodyPost_ret (v := .agg #[.int .i64 (-1 * u10), .int .i64 (-1 * u11), .int .i64 (-1 * u12), .int .i64 0, .int .i64 v01, .int .i64 v02, .int .i64 0, .int .i64 v11, .int .i64 v12]) ?_ rfl ⟨_, _, _, _, _, _, _, _, _, ?_, rfl, ((((((((((((KB.out.setCell (p := ⟨w.heap.size, 0, none⟩) (Nat.le_refl _) _).setCell (p := ⟨w.heap.size, 1, none⟩) (Nat.le_refl _) _).setCell (p := ⟨w.heap.size, 2, none⟩) (Nat.le_refl _) _).setCell (p := ⟨w.heap.size + 1, 0, none⟩) (Nat.le_succ _) _).setCell (p := ⟨w.heap.size + 1, 1, none⟩) (Nat.le_succ _) _).setCell (p := ⟨w.heap.size + 1, 2, none⟩) (Nat.le_succ _) _).setCell (p := ⟨w.heap.size + 1, 3, none⟩) (Nat.le_succ _) _).setCell (p := ⟨w.heap.size + 1, 4, none⟩) (Nat.le_succ _) _).setCell (p := ⟨w.heap.size + 1, 5, none⟩) (Nat.le_succ _) _).setCell (p := ⟨w.heap.size + 1, 6, none⟩) (Nat.le_succ _) _).setCell (p := ⟨w.heap.size + 1, 7, none⟩) (Nat.le_succ _) _).setCell (p := ⟨w.heap.size + 1, 8, none⟩) (Nat.le_succ _) _)⟩
            · simp [results, Tryz.results60, go_sem, j0, j1, j2, j3, j4, j5, j6, j7, j8]
            · show negH 0 (pairsH 0 [[x0, x1, x2], [x3, x4, x5], [x6, x7, x8]] 2) = _
              rw [HZ2.out, HN2.out]
          · have hn2 : negH 0 [[u10, u11, u12], [0, v01, v02], [0, v11, v12]] = [[u10, u11, u12], [0, v01, v02], [0, v11, v12]] := by
              unfold negH
              rw [show ([[u10, u11, u12], [0, v01, v02], [0, v11, v12]] : List (List Int)).getD 0 [] = [u10, u11, u12] from rfl, if_neg (show ¬ colA 0 [u10, u11, u12] < 0 from hneg)]
            have hge : 0 ≤ u10 := by omega
            have HN2 := Lib.hid hn2
            clear hn2
            obtain ⟨⟨l0, l1, l2⟩, ⟨l3, l4, l5⟩, l6, l7, l8⟩ := HX.out.cells
            obtain ⟨⟨j0, j1, j2⟩, ⟨j3, j4, j5⟩, j6, j7, j8⟩ := HR.out.cells
            have f0 := HR.out.frozen 0
            have f1 := HR.out.frozen 1
            have f2 := HR.out.frozen 2
            have f3 := HR.out.frozen 3
            have f4 := HR.out.frozen 4
            have f5 := HR.out.frozen 5
            have f6 := HR.out.frozen 6
            have f7 := HR.out.frozen 7
            have f8 := HR.out.frozen 8
            go_wp2
            refine bodyPost_ret (v := .agg #[.int .i64 u10, .int .i64 u11, .int .i64 u12, .int .i64 0, .int .i64 v01, .int .i64 v02, .int .i64 0, .int .i64 v11, .int .i64 v12]) ?_ rfl ⟨_, _, _, _, _, _, _, _, _, ?_, rfl, (((((((((HBw.out.setCell (p := ⟨w.heap.size + 1, 0, none⟩) (Nat.le_succ _) _).setCell (p := ⟨w.heap.size + 1, 1, none⟩) (Nat.le_succ _) _).setCell (p := ⟨w.heap.size + 1, 2, none⟩) (Nat.le_succ _) _).setCell (p := ⟨w.heap.size + 1, 3, none⟩) (Nat.le_succ _) _).setCell (p := ⟨w.heap.size + 1, 4, none⟩) (Nat.le_succ _) _).setCell (p := ⟨w.heap.size + 1, 5, none⟩) (Nat.le_succ _) _).setCell (p := ⟨w.heap.size + 1, 6, none⟩) (Nat.le_succ _) _).setCell (p := ⟨w.heap.size + 1, 7, none⟩) (Nat.le_succ _) _).setCell (p := ⟨w.heap.size + 1, 8, none⟩) (Nat.le_succ _) _)⟩
            · simp [results, Tryz.results60, go_sem, j0, j1, j2, j3, j4, j5, j6, j7, j8]
            · show negH 0 (pairsH 0 [[x0, x1, x2], [x3, x4, x5], [x6, x7, x8]] 2) = _
              rw [HZ2.out, HN2.out]
        · have hne : (v10 != 0) = true := by rw [bne_iff_ne]; exact hv
          have hne2 : (v10 == 0) = false := by rw [beq_eq_false_iff_ne]; exact hv
          have hstep := HEu.out.step (show colA 0 [v10, v11, v12] ≠ 0 from hv)
          have hbu := bd_three hstep.2.2.1
          have hbv := bd_three hstep.2.2.2
          have hbs := bd_three (show Bd [v10 * u10.tdiv v10, v11 * u10.tdiv v10, v12 * u10.tdiv v10] 80400000000 from hstep.2.1)
          have hqb := tdiv_bd3 (g := v10) hbu.1.1 hbu.1.2
          have HN := Lib.hid (next_three 0 u10 u11 u12 v10 v11 v12 (u10.tdiv v10) rfl)
          have HST := Lib.hid hstep.1
          have hqw : IntKind.i64.wrap (u10.tdiv v10) = u10.tdiv v10 := IntWalk.i64_in _ (by omega)
          have hqn : IntKind.i64.wrap (-(u10.tdiv v10)) = -(u10.tdiv v10) := IntWalk.i64_in _ (by omega)
          have CT := Lib.hid (fun W => i_addt u10 u11 u12 (-(u10.tdiv v10)) v10 v11 v12 W (by omega) (by omega) (by omega) (by rw [Int.neg_mul, Int.mul_comm]; omega) (by rw [Int.neg_mul, Int.mul_comm]; omega) (by rw [Int.neg_mul, Int.mul_comm]; omega))
          clear hstep hbu hbv hbs hqb
          have hneX : W0.heap.size ≠ w.heap.size := Nat.ne_of_gt HX.out.lt
          have hneR : W0.heap.size ≠ w.heap.size + 1 := Nat.ne_of_gt HR.out.lt
          go_wp2
          go_region_held3 (fun w' => w'.cell? ⟨w.heap.size, 0, none⟩ = some (.int .i64 u10) ∧ w'.cell? ⟨w.heap.size, 1, none⟩ = some (.int .i64 u11) ∧ w'.cell? ⟨w.heap.size, 2, none⟩ = some (.int .i64 u12) ∧ w'.cell? ⟨w.heap.size, 3, none⟩ = some (.int .i64 0) ∧ w'.cell? ⟨w.heap.size, 4, none⟩ = some (.int .i64 v01) ∧ w'.cell? ⟨w.heap.size, 5, none⟩ = some (.int .i64 v02) ∧ w'.cell? ⟨w.heap.size, 6, none⟩ = some (.int .i64 v10) ∧ w'.cell? ⟨w.heap.size, 7, none⟩ = some (.int .i64 v11) ∧ w'.cell? ⟨w.heap.size, 8, none⟩ = some (.int .i64 v12))
            (first | (with_reducible exact HX.out.cells9D) | (with_reducible exact M1.out.cells9) | (with_reducible exact (M1.out.allocd _).cells9) | (with_reducible exact (((M1.out.other (p := ⟨W0.heap.size, 0, none⟩) hneX _).other (p := ⟨W0.heap.size, 1, none⟩) hneX _).other (p := ⟨W0.heap.size, 2, none⟩) hneX _).cells9) | (with_reducible exact (HX.out.allocd _).cells9D))
            (first | (go_at_call 62; (with_reducible refine (CT.out W0.drew).mono ?_); rintro e V ⟨rfl, hb⟩; have M1 := Lib.hid (HX.out.belowE hb); have M2 := Lib.hid (HR.out.belowE hb); have BA := Lib.hid ((HBw.out.drew).trans (hb.mono HBw.out.size)); have hl := M1.out.lt; clear hb) | (go_at_call 62; refine (CT.out _).mono ?_; rintro e V ⟨rfl, hb⟩; have M1 := Lib.hid (HX.out.belowA hb); have M2 := Lib.hid (HR.out.belowA hb); have BA := Lib.hid (((HBw.out.drew).alloc HBw.out.size _).trans (hb.mono (Nat.le_trans HBw.out.size (size_drew_alloc W0 _)))); have hl := M1.out.lt; have C3 := (G3.newAt (w := W0.drew) (B := W0.heap.size) rfl 43 0 0 0).below hb; obtain ⟨c0, c1, c2⟩ := C3.cells; have g0 := C3.frozen 0; have g1 := C3.frozen 1; have g2 := C3.frozen 2; clear hb))
          · go_wp2
            refine wgen ?_
            intro W2 hW
            have PX := Lib.hid (show G9 W2 w.heap.size 45 u10 u11 u12 0 v01 v02 v10 v11 v12 by rw [hW]; exact M1.out.below ((Below.refl _ _).alloc (Nat.le_refl _) _))
            have PR := Lib.hid (show G9 W2 (w.heap.size + 1) 45 0 0 0 0 0 0 0 0 0 by rw [hW]; exact M2.out.below ((Below.refl _ _).alloc (Nat.le_refl _) _))
            have PB := Lib.hid (show Below w.heap.size w W2 by rw [hW]; exact BA.out.alloc BA.out.size _)
            have PC := (show G3 W2 V.heap.size 43 (u10 + -u10.tdiv v10 * v10) (u11 + -u10.tdiv v10 * v11) (u12 + -u10.tdiv v10 * v12) by rw [hW]; exact G3.newAt rfl 43 (u10 + -u10.tdiv v10 * v10) (u11 + -u10.tdiv v10 * v11) (u12 + -u10.tdiv v10 * v12))
            have hcx : w.heap.size < V.heap.size := M1.out.lt
            obtain ⟨d0, d1, d2⟩ := PC.cells
            have PCH := Lib.hid (show G3 W2.drew V.heap.size 43 (u10 + -u10.tdiv v10 * v10) (u11 + -u10.tdiv v10 * v11) (u12 + -u10.tdiv v10 * v12) from PC)
            clear hW PC l0 l1 l2 l3 l4 l5 l6 l7 l8 hl
            obtain ⟨⟨l0, l1, l2⟩, ⟨l3, l4, l5⟩, l6, l7, l8⟩ := PX.out.cells
            have fa0 := PX.out.frozen 0
            have fb0 := PX.out.frozen 6
            have fa1 := PX.out.frozen 1
            have fb1 := PX.out.frozen 7
            have fa2 := PX.out.frozen 2
            have fb2 := PX.out.frozen 8
            refine T_begin (z := fun k => 7 < k) (S := fun w' => w'.cell? ⟨w.heap.size, 6, none⟩ = some (.int .i64 v10) ∧ w'.cell? ⟨w.heap.size, 7, none⟩ = some (.int .i64 v11) ∧ w'.cell? ⟨w.heap.size, 8, none⟩ = some (.int .i64 v12) ∧ w'.cell? ⟨V.heap.size, 0, none⟩ = some (.int .i64 (u10 + -u10.tdiv v10 * v10)) ∧ w'.cell? ⟨V.heap.size, 1, none⟩ = some (.int .i64 (u11 + -u10.tdiv v10 * v11)) ∧ w'.cell? ⟨V.heap.size, 2, none⟩ = some (.int .i64 (u12 + -u10.tdiv v10 * v12))) (by kernel_rfl) ?_
            show wpAnyT _ _ _ _ _ _ 10 _ _ _
            have hS0 := Lib.hid (show (fun w' => w'.cell? ⟨w.heap.size, 6, none⟩ = some (.int .i64 v10) ∧ w'.cell? ⟨w.heap.size, 7, none⟩ = some (.int .i64 v11) ∧ w'.cell? ⟨w.heap.size, 8, none⟩ = some (.int .i64 v12) ∧ w'.cell? ⟨V.heap.size, 0, none⟩ = some (.int .i64 (u10 + -u10.tdiv v10 * v10)) ∧ w'.cell? ⟨V.heap.size, 1, none⟩ = some (.int .i64 (u11 + -u10.tdiv v10 * v11)) ∧ w'.cell? ⟨V.heap.size, 2, none⟩ = some (.int .i64 (u12 + -u10.tdiv v10 * v12))) W2.drew from ⟨l6, l7, l8, d0, d1, d2⟩)
            refine T_take (i := 0) (v := .int .i64 0) rfl (by kernel_rfl) (by kernel_rfl) (by kernel_rfl) (by kernel_rfl) (fun _ _ _ h => h) hS0.out rfl (fun w' hS' => by (try dsimp only at hS'); go_simp) ?_
            try simp only [Act.put, List.setIfInBounds_toArray]
            refine T_take (i := 1) (v := .int .i64 2) rfl (by kernel_rfl) (by kernel_rfl) (by kernel_rfl) (by kernel_rfl) (fun _ _ _ h => h) hS0.out rfl (fun w' hS' => by (try dsimp only at hS'); go_simp) ?_
            try simp only [Act.put]
            refine T_take (i := 2) (v := .int .i64 2) rfl (by kernel_rfl) (by kernel_rfl) (by kernel_rfl) (by kernel_rfl) (fun _ _ _ h => h) hS0.out rfl (fun w' hS' => by (try dsimp only at hS'); go_simp) ?_
            try simp only [Act.put]
            refine T_take (i := 3) (v := .pointer (some ⟨w.heap.size, 6, none⟩)) rfl (by kernel_rfl) (by kernel_rfl) (by kernel_rfl) (by kernel_rfl) (fun _ _ _ h => h) hS0.out rfl (fun w' hS' => by (try dsimp only at hS'); go_simp) ?_
            try simp only [Act.put]
            refine T_take (i := 4) (v := .agg #[.int .i64 v10, .int .i64 v11, .int .i64 v12]) rfl (by kernel_rfl) (by kernel_rfl) (by kernel_rfl) (by kernel_rfl) (fun _ _ _ h => h) hS0.out rfl (fun w' hS' => by (try dsimp only at hS'); go_simp) ?_
            try simp only [Act.put]
            refine T_take (i := 5) (v := .agg #[.int .i64 (u10 + -u10.tdiv v10 * v10), .int .i64 (u11 + -u10.tdiv v10 * v11), .int .i64 (u12 + -u10.tdiv v10 * v12)]) rfl (by kernel_rfl) (by kernel_rfl) (by kernel_rfl) (by kernel_rfl) (fun _ _ _ h => h) hS0.out rfl (fun w' hS' => by (try dsimp only at hS'); go_simp) ?_
            try simp only [Act.put]
            refine T_take (i := 6) (v := .pointer (some ⟨w.heap.size, 0, none⟩)) rfl (by kernel_rfl) (by kernel_rfl) (by kernel_rfl) (by kernel_rfl) (fun _ _ _ h => h) hS0.out rfl (fun w' hS' => by (try dsimp only at hS'); go_simp) ?_
            try simp only [Act.put]
            refine T_step (i := 7) rfl (by kernel_rfl) rfl rfl ?_
            intro K hK
            go_simp
            have PXD := (show G9 W2.drew w.heap.size 45 u10 u11 u12 0 v01 v02 v10 v11 v12 from PX.out).set0 v10 v11 v12
            have PCD := (show G3 (((W2.drew.setCell ⟨w.heap.size, 0, none⟩ (.int .i64 v10)).setCell ⟨w.heap.size, 1, none⟩ (.int .i64 v11)).setCell ⟨w.heap.size, 2, none⟩ (.int .i64 v12)) V.heap.size 43 (u10 + -u10.tdiv v10 * v10) (u11 + -u10.tdiv v10 * v11) (u12 + -u10.tdiv v10 * v12) from (((PCH.out.other (p := ⟨w.heap.size, 0, none⟩) (Nat.ne_of_lt hcx) (.int .i64 v10)).other (p := ⟨w.heap.size, 1, none⟩) (Nat.ne_of_lt hcx) (.int .i64 v11)).other (p := ⟨w.heap.size, 2, none⟩) (Nat.ne_of_lt hcx) (.int .i64 v12)))
            refine hK.out _ _ ⟨PXD.cells.2.2.1, PXD.cells.2.2.2.1, PXD.cells.2.2.2.2, PCD.cells.1, PCD.cells.2.1, PCD.cells.2.2⟩ ?_
            clear hK K PXD PCD
            try simp only [Act.put, List.setIfInBounds_toArray, List.set_cons_zero, List.set_cons_succ]
            refine T_anytake (i := 8) (v := .pointer (some ⟨w.heap.size, 6, none⟩)) rfl (by kernel_rfl) (by kernel_rfl) (by kernel_rfl) rfl (fun _ _ _ h => h) rfl (fun w' => by go_simp) ?_
            try simp only [Act.put, List.setIfInBounds_toArray]
            refine T_last (i := 9) rfl (by kernel_rfl) (by kernel_rfl) rfl rfl ?_
            go_simp
            go_wp2
            have QX := Lib.hid ((PX.out.set0 v10 v11 v12).set2 (u10 + -u10.tdiv v10 * v10) (u11 + -u10.tdiv v10 * v11) (u12 + -u10.tdiv v10 * v12))
            have QR := Lib.hid (((((((PR.out.other (p := ⟨w.heap.size, 0, none⟩) (Nat.ne_of_lt (Nat.lt_succ_self _)) (.int .i64 (v10))).other (p := ⟨w.heap.size, 1, none⟩) (Nat.ne_of_lt (Nat.lt_succ_self _)) (.int .i64 (v11))).other (p := ⟨w.heap.size, 2, none⟩) (Nat.ne_of_lt (Nat.lt_succ_self _)) (.int .i64 (v12))).other (p := ⟨w.heap.size, 6, none⟩) (Nat.ne_of_lt (Nat.lt_succ_self _)) (.int .i64 (u10 + -u10.tdiv v10 * v10))).other (p := ⟨w.heap.size, 7, none⟩) (Nat.ne_of_lt (Nat.lt_succ_self _)) (.int .i64 (u11 + -u10.tdiv v10 * v11))).other (p := ⟨w.heap.size, 8, none⟩) (Nat.ne_of_lt (Nat.lt_succ_self _)) (.int .i64 (u12 + -u10.tdiv v10 * v12))))
            have QB := Lib.hid (((((((PB.out.setCell (p := ⟨w.heap.size, 0, none⟩) (Nat.le_refl _) (.int .i64 (v10))).setCell (p := ⟨w.heap.size, 1, none⟩) (Nat.le_refl _) (.int .i64 (v11))).setCell (p := ⟨w.heap.size, 2, none⟩) (Nat.le_refl _) (.int .i64 (v12))).setCell (p := ⟨w.heap.size, 6, none⟩) (Nat.le_refl _) (.int .i64 (u10 + -u10.tdiv v10 * v10))).setCell (p := ⟨w.heap.size, 7, none⟩) (Nat.le_refl _) (.int .i64 (u11 + -u10.tdiv v10 * v11))).setCell (p := ⟨w.heap.size, 8, none⟩) (Nat.le_refl _) (.int .i64 (u12 + -u10.tdiv v10 * v12))))
            have hst := HST.out
            rw [HN.out] at hst
            refine ⟨⟨v10, v11, v12, u10 + -u10.tdiv v10 * v10, u11 + -u10.tdiv v10 * v11, u12 + -u10.tdiv v10 * v12, hst, ?_, ⟨QX.out.drewn, QR.out.drewn⟩, (QB.out).drew⟩, ?_⟩
            · rw [← HN.out, ← eucl_step (by rfl) (show colA 0 [v10, v11, v12] ≠ 0 from hv), HQ.out]
            · have hr2 := rdC_of (QX.out.drewn.cells.2.2.1)
              have hcol := nextR_col (c := 0) (u := [u10, u11, u12]) (v := [v10, v11, v12]) rfl
              rw [HN.out] at hcol
              have hcol2 : u10 + -u10.tdiv v10 * v10 = u10.tmod v10 := hcol
              rw [hr2, HRD.out, hcol2, Int.natAbs_tmod]
              exact Nat.mod_lt _ (by omega)
          · go_wp2
            refine wgen ?_
            intro W2 hW
            have PX := Lib.hid (show G9 W2 w.heap.size 45 u10 u11 u12 0 v01 v02 v10 v11 v12 by rw [hW]; exact (((M1.out.other (p := ⟨W0.heap.size, 0, none⟩) hneX (.int .i64 (u10 + -u10.tdiv v10 * v10))).other (p := ⟨W0.heap.size, 1, none⟩) hneX (.int .i64 (u11 + -u10.tdiv v10 * v11))).other (p := ⟨W0.heap.size, 2, none⟩) hneX (.int .i64 (u12 + -u10.tdiv v10 * v12))))
            have PR := Lib.hid (show G9 W2 (w.heap.size + 1) 45 0 0 0 0 0 0 0 0 0 by rw [hW]; exact (((M2.out.other (p := ⟨W0.heap.size, 0, none⟩) hneR (.int .i64 (u10 + -u10.tdiv v10 * v10))).other (p := ⟨W0.heap.size, 1, none⟩) hneR (.int .i64 (u11 + -u10.tdiv v10 * v11))).other (p := ⟨W0.heap.size, 2, none⟩) hneR (.int .i64 (u12 + -u10.tdiv v10 * v12))))
            have PB := Lib.hid (show Below w.heap.size w W2 by rw [hW]; exact (((BA.out.setCell (p := ⟨W0.heap.size, 0, none⟩) HBw.out.size (.int .i64 (u10 + -u10.tdiv v10 * v10))).setCell (p := ⟨W0.heap.size, 1, none⟩) HBw.out.size (.int .i64 (u11 + -u10.tdiv v10 * v11))).setCell (p := ⟨W0.heap.size, 2, none⟩) HBw.out.size (.int .i64 (u12 + -u10.tdiv v10 * v12))))
            have PC := (show G3 W2 W0.heap.size 43 (u10 + -u10.tdiv v10 * v10) (u11 + -u10.tdiv v10 * v11) (u12 + -u10.tdiv v10 * v12) by rw [hW]; exact ((C3.set0 (u10 + -u10.tdiv v10 * v10)).set1 (u11 + -u10.tdiv v10 * v11)).set2 (u12 + -u10.tdiv v10 * v12))
            have hcx : w.heap.size < W0.heap.size := HX.out.lt
            obtain ⟨d0, d1, d2⟩ := PC.cells
            have PCH := Lib.hid (show G3 W2.drew W0.heap.size 43 (u10 + -u10.tdiv v10 * v10) (u11 + -u10.tdiv v10 * v11) (u12 + -u10.tdiv v10 * v12) from PC)
            clear hW PC l0 l1 l2 l3 l4 l5 l6 l7 l8 hl C3 c0 c1 c2 g0 g1 g2
            obtain ⟨⟨l0, l1, l2⟩, ⟨l3, l4, l5⟩, l6, l7, l8⟩ := PX.out.cells
            have fa0 := PX.out.frozen 0
            have fb0 := PX.out.frozen 6
            have fa1 := PX.out.frozen 1
            have fb1 := PX.out.frozen 7
            have fa2 := PX.out.frozen 2
            have fb2 := PX.out.frozen 8
            refine T_begin (z := fun k => 7 < k) (S := fun w' => w'.cell? ⟨w.heap.size, 6, none⟩ = some (.int .i64 v10) ∧ w'.cell? ⟨w.heap.size, 7, none⟩ = some (.int .i64 v11) ∧ w'.cell? ⟨w.heap.size, 8, none⟩ = some (.int .i64 v12) ∧ w'.cell? ⟨W0.heap.size, 0, none⟩ = some (.int .i64 (u10 + -u10.tdiv v10 * v10)) ∧ w'.cell? ⟨W0.heap.size, 1, none⟩ = some (.int .i64 (u11 + -u10.tdiv v10 * v11)) ∧ w'.cell? ⟨W0.heap.size, 2, none⟩ = some (.int .i64 (u12 + -u10.tdiv v10 * v12))) (by kernel_rfl) ?_
            show wpAnyT _ _ _ _ _ _ 10 _ _ _
            have hS0 := Lib.hid (show (fun w' => w'.cell? ⟨w.heap.size, 6, none⟩ = some (.int .i64 v10) ∧ w'.cell? ⟨w.heap.size, 7, none⟩ = some (.int .i64 v11) ∧ w'.cell? ⟨w.heap.size, 8, none⟩ = some (.int .i64 v12) ∧ w'.cell? ⟨W0.heap.size, 0, none⟩ = some (.int .i64 (u10 + -u10.tdiv v10 * v10)) ∧ w'.cell? ⟨W0.heap.size, 1, none⟩ = some (.int .i64 (u11 + -u10.tdiv v10 * v11)) ∧ w'.cell? ⟨W0.heap.size, 2, none⟩ = some (.int .i64 (u12 + -u10.tdiv v10 * v12))) W2.drew from ⟨l6, l7, l8, d0, d1, d2⟩)
            refine T_take (i := 0) (v := .int .i64 0) rfl (by kernel_rfl) (by kernel_rfl) (by kernel_rfl) (by kernel_rfl) (fun _ _ _ h => h) hS0.out rfl (fun w' hS' => by (try dsimp only at hS'); go_simp) ?_
            try simp only [Act.put, List.setIfInBounds_toArray]
            refine T_take (i := 1) (v := .int .i64 2) rfl (by kernel_rfl) (by kernel_rfl) (by kernel_rfl) (by kernel_rfl) (fun _ _ _ h => h) hS0.out rfl (fun w' hS' => by (try dsimp only at hS'); go_simp) ?_
            try simp only [Act.put]
            refine T_take (i := 2) (v := .int .i64 2) rfl (by kernel_rfl) (by kernel_rfl) (by kernel_rfl) (by kernel_rfl) (fun _ _ _ h => h) hS0.out rfl (fun w' hS' => by (try dsimp only at hS'); go_simp) ?_
            try simp only [Act.put]
            refine T_take (i := 3) (v := .pointer (some ⟨w.heap.size, 6, none⟩)) rfl (by kernel_rfl) (by kernel_rfl) (by kernel_rfl) (by kernel_rfl) (fun _ _ _ h => h) hS0.out rfl (fun w' hS' => by (try dsimp only at hS'); go_simp) ?_
            try simp only [Act.put]
            refine T_take (i := 4) (v := .agg #[.int .i64 v10, .int .i64 v11, .int .i64 v12]) rfl (by kernel_rfl) (by kernel_rfl) (by kernel_rfl) (by kernel_rfl) (fun _ _ _ h => h) hS0.out rfl (fun w' hS' => by (try dsimp only at hS'); go_simp) ?_
            try simp only [Act.put]
            refine T_take (i := 5) (v := .agg #[.int .i64 (u10 + -u10.tdiv v10 * v10), .int .i64 (u11 + -u10.tdiv v10 * v11), .int .i64 (u12 + -u10.tdiv v10 * v12)]) rfl (by kernel_rfl) (by kernel_rfl) (by kernel_rfl) (by kernel_rfl) (fun _ _ _ h => h) hS0.out rfl (fun w' hS' => by (try dsimp only at hS'); go_simp) ?_
            try simp only [Act.put]
            refine T_take (i := 6) (v := .pointer (some ⟨w.heap.size, 0, none⟩)) rfl (by kernel_rfl) (by kernel_rfl) (by kernel_rfl) (by kernel_rfl) (fun _ _ _ h => h) hS0.out rfl (fun w' hS' => by (try dsimp only at hS'); go_simp) ?_
            try simp only [Act.put]
            refine T_step (i := 7) rfl (by kernel_rfl) rfl rfl ?_
            intro K hK
            go_simp
            have PXD := (show G9 W2.drew w.heap.size 45 u10 u11 u12 0 v01 v02 v10 v11 v12 from PX.out).set0 v10 v11 v12
            have PCD := (show G3 (((W2.drew.setCell ⟨w.heap.size, 0, none⟩ (.int .i64 v10)).setCell ⟨w.heap.size, 1, none⟩ (.int .i64 v11)).setCell ⟨w.heap.size, 2, none⟩ (.int .i64 v12)) W0.heap.size 43 (u10 + -u10.tdiv v10 * v10) (u11 + -u10.tdiv v10 * v11) (u12 + -u10.tdiv v10 * v12) from (((PCH.out.other (p := ⟨w.heap.size, 0, none⟩) (Nat.ne_of_lt hcx) (.int .i64 v10)).other (p := ⟨w.heap.size, 1, none⟩) (Nat.ne_of_lt hcx) (.int .i64 v11)).other (p := ⟨w.heap.size, 2, none⟩) (Nat.ne_of_lt hcx) (.int .i64 v12)))
            refine hK.out _ _ ⟨PXD.cells.2.2.1, PXD.cells.2.2.2.1, PXD.cells.2.2.2.2, PCD.cells.1, PCD.cells.2.1, PCD.cells.2.2⟩ ?_
            clear hK K PXD PCD
            try simp only [Act.put, List.setIfInBounds_toArray, List.set_cons_zero, List.set_cons_succ]
            refine T_anytake (i := 8) (v := .pointer (some ⟨w.heap.size, 6, none⟩)) rfl (by kernel_rfl) (by kernel_rfl) (by kernel_rfl) rfl (fun _ _ _ h => h) rfl (fun w' => by go_simp) ?_
            try simp only [Act.put, List.setIfInBounds_toArray]
            refine T_last (i := 9) rfl (by kernel_rfl) (by kernel_rfl) rfl rfl ?_
            go_simp
            go_wp2
            have QX := Lib.hid ((PX.out.set0 v10 v11 v12).set2 (u10 + -u10.tdiv v10 * v10) (u11 + -u10.tdiv v10 * v11) (u12 + -u10.tdiv v10 * v12))
            have QR := Lib.hid (((((((PR.out.other (p := ⟨w.heap.size, 0, none⟩) (Nat.ne_of_lt (Nat.lt_succ_self _)) (.int .i64 (v10))).other (p := ⟨w.heap.size, 1, none⟩) (Nat.ne_of_lt (Nat.lt_succ_self _)) (.int .i64 (v11))).other (p := ⟨w.heap.size, 2, none⟩) (Nat.ne_of_lt (Nat.lt_succ_self _)) (.int .i64 (v12))).other (p := ⟨w.heap.size, 6, none⟩) (Nat.ne_of_lt (Nat.lt_succ_self _)) (.int .i64 (u10 + -u10.tdiv v10 * v10))).other (p := ⟨w.heap.size, 7, none⟩) (Nat.ne_of_lt (Nat.lt_succ_self _)) (.int .i64 (u11 + -u10.tdiv v10 * v11))).other (p := ⟨w.heap.size, 8, none⟩) (Nat.ne_of_lt (Nat.lt_succ_self _)) (.int .i64 (u12 + -u10.tdiv v10 * v12))))
            have QB := Lib.hid (((((((PB.out.setCell (p := ⟨w.heap.size, 0, none⟩) (Nat.le_refl _) (.int .i64 (v10))).setCell (p := ⟨w.heap.size, 1, none⟩) (Nat.le_refl _) (.int .i64 (v11))).setCell (p := ⟨w.heap.size, 2, none⟩) (Nat.le_refl _) (.int .i64 (v12))).setCell (p := ⟨w.heap.size, 6, none⟩) (Nat.le_refl _) (.int .i64 (u10 + -u10.tdiv v10 * v10))).setCell (p := ⟨w.heap.size, 7, none⟩) (Nat.le_refl _) (.int .i64 (u11 + -u10.tdiv v10 * v11))).setCell (p := ⟨w.heap.size, 8, none⟩) (Nat.le_refl _) (.int .i64 (u12 + -u10.tdiv v10 * v12))))
            have hst := HST.out
            rw [HN.out] at hst
            refine ⟨⟨v10, v11, v12, u10 + -u10.tdiv v10 * v10, u11 + -u10.tdiv v10 * v11, u12 + -u10.tdiv v10 * v12, hst, ?_, ⟨QX.out.drewn, QR.out.drewn⟩, (QB.out).drew⟩, ?_⟩
            · rw [← HN.out, ← eucl_step (by rfl) (show colA 0 [v10, v11, v12] ≠ 0 from hv), HQ.out]
            · have hr2 := rdC_of (QX.out.drewn.cells.2.2.1)
              have hcol := nextR_col (c := 0) (u := [u10, u11, u12]) (v := [v10, v11, v12]) rfl
              rw [HN.out] at hcol
              have hcol2 : u10 + -u10.tdiv v10 * v10 = u10.tmod v10 := hcol
              rw [hr2, HRD.out, hcol2, Int.natAbs_tmod]
              exact Nat.mod_lt _ (by omega)
    · have hne : (v00 != 0) = true := by rw [bne_iff_ne]; exact hv
      have hne2 : (v00 == 0) = false := by rw [beq_eq_false_iff_ne]; exact hv
      have hstep := HEu.out.step (show colA 0 [v00, v01, v02] ≠ 0 from hv)
      have hbu := bd_three hstep.2.2.1
      have hbv := bd_three hstep.2.2.2
      have hbs := bd_three (show Bd [v00 * u00.tdiv v00, v01 * u00.tdiv v00, v02 * u00.tdiv v00] 80400000000 from hstep.2.1)
      have hqb := tdiv_bd3 (g := v00) hbu.1.1 hbu.1.2
      have HN := Lib.hid (next_three 0 u00 u01 u02 v00 v01 v02 (u00.tdiv v00) rfl)
      have HST := Lib.hid hstep.1
      have hqw : IntKind.i64.wrap (u00.tdiv v00) = u00.tdiv v00 := IntWalk.i64_in _ (by omega)
      have hqn : IntKind.i64.wrap (-(u00.tdiv v00)) = -(u00.tdiv v00) := IntWalk.i64_in _ (by omega)
      have CT := Lib.hid (fun W => i_addt u00 u01 u02 (-(u00.tdiv v00)) v00 v01 v02 W (by omega) (by omega) (by omega) (by rw [Int.neg_mul, Int.mul_comm]; omega) (by rw [Int.neg_mul, Int.mul_comm]; omega) (by rw [Int.neg_mul, Int.mul_comm]; omega))
      clear hstep hbu hbv hbs hqb
      have hneX : W0.heap.size ≠ w.heap.size := Nat.ne_of_gt HX.out.lt
      have hneR : W0.heap.size ≠ w.heap.size + 1 := Nat.ne_of_gt HR.out.lt
      go_wp2
      go_region_held3 (fun w' => w'.cell? ⟨w.heap.size, 0, none⟩ = some (.int .i64 u00) ∧ w'.cell? ⟨w.heap.size, 1, none⟩ = some (.int .i64 u01) ∧ w'.cell? ⟨w.heap.size, 2, none⟩ = some (.int .i64 u02) ∧ w'.cell? ⟨w.heap.size, 3, none⟩ = some (.int .i64 v00) ∧ w'.cell? ⟨w.heap.size, 4, none⟩ = some (.int .i64 v01) ∧ w'.cell? ⟨w.heap.size, 5, none⟩ = some (.int .i64 v02) ∧ w'.cell? ⟨w.heap.size, 6, none⟩ = some (.int .i64 x6) ∧ w'.cell? ⟨w.heap.size, 7, none⟩ = some (.int .i64 x7) ∧ w'.cell? ⟨w.heap.size, 8, none⟩ = some (.int .i64 x8))
        (first | (with_reducible exact HX.out.cells9D) | (with_reducible exact M1.out.cells9) | (with_reducible exact (M1.out.allocd _).cells9) | (with_reducible exact (((M1.out.other (p := ⟨W0.heap.size, 0, none⟩) hneX _).other (p := ⟨W0.heap.size, 1, none⟩) hneX _).other (p := ⟨W0.heap.size, 2, none⟩) hneX _).cells9) | (with_reducible exact (HX.out.allocd _).cells9D))
        (first | (go_at_call 62; (with_reducible refine (CT.out W0.drew).mono ?_); rintro e V ⟨rfl, hb⟩; have M1 := Lib.hid (HX.out.belowE hb); have M2 := Lib.hid (HR.out.belowE hb); have BA := Lib.hid ((HBw.out.drew).trans (hb.mono HBw.out.size)); have hl := M1.out.lt; clear hb) | (go_at_call 62; refine (CT.out _).mono ?_; rintro e V ⟨rfl, hb⟩; have M1 := Lib.hid (HX.out.belowA hb); have M2 := Lib.hid (HR.out.belowA hb); have BA := Lib.hid (((HBw.out.drew).alloc HBw.out.size _).trans (hb.mono (Nat.le_trans HBw.out.size (size_drew_alloc W0 _)))); have hl := M1.out.lt; have C3 := (G3.newAt (w := W0.drew) (B := W0.heap.size) rfl 43 0 0 0).below hb; obtain ⟨c0, c1, c2⟩ := C3.cells; have g0 := C3.frozen 0; have g1 := C3.frozen 1; have g2 := C3.frozen 2; clear hb))
      · go_wp2
        refine wgen ?_
        intro W2 hW
        have PX := Lib.hid (show G9 W2 w.heap.size 45 u00 u01 u02 v00 v01 v02 x6 x7 x8 by rw [hW]; exact M1.out.below ((Below.refl _ _).alloc (Nat.le_refl _) _))
        have PR := Lib.hid (show G9 W2 (w.heap.size + 1) 45 0 0 0 0 0 0 0 0 0 by rw [hW]; exact M2.out.below ((Below.refl _ _).alloc (Nat.le_refl _) _))
        have PB := Lib.hid (show Below w.heap.size w W2 by rw [hW]; exact BA.out.alloc BA.out.size _)
        have PC := (show G3 W2 V.heap.size 43 (u00 + -u00.tdiv v00 * v00) (u01 + -u00.tdiv v00 * v01) (u02 + -u00.tdiv v00 * v02) by rw [hW]; exact G3.newAt rfl 43 (u00 + -u00.tdiv v00 * v00) (u01 + -u00.tdiv v00 * v01) (u02 + -u00.tdiv v00 * v02))
        have hcx : w.heap.size < V.heap.size := M1.out.lt
        obtain ⟨d0, d1, d2⟩ := PC.cells
        have PCH := Lib.hid (show G3 W2.drew V.heap.size 43 (u00 + -u00.tdiv v00 * v00) (u01 + -u00.tdiv v00 * v01) (u02 + -u00.tdiv v00 * v02) from PC)
        clear hW PC l0 l1 l2 l3 l4 l5 l6 l7 l8 hl
        obtain ⟨⟨l0, l1, l2⟩, ⟨l3, l4, l5⟩, l6, l7, l8⟩ := PX.out.cells
        have fa0 := PX.out.frozen 0
        have fb0 := PX.out.frozen 3
        have fa1 := PX.out.frozen 1
        have fb1 := PX.out.frozen 4
        have fa2 := PX.out.frozen 2
        have fb2 := PX.out.frozen 5
        refine T_begin (z := fun k => 7 < k) (S := fun w' => w'.cell? ⟨w.heap.size, 3, none⟩ = some (.int .i64 v00) ∧ w'.cell? ⟨w.heap.size, 4, none⟩ = some (.int .i64 v01) ∧ w'.cell? ⟨w.heap.size, 5, none⟩ = some (.int .i64 v02) ∧ w'.cell? ⟨V.heap.size, 0, none⟩ = some (.int .i64 (u00 + -u00.tdiv v00 * v00)) ∧ w'.cell? ⟨V.heap.size, 1, none⟩ = some (.int .i64 (u01 + -u00.tdiv v00 * v01)) ∧ w'.cell? ⟨V.heap.size, 2, none⟩ = some (.int .i64 (u02 + -u00.tdiv v00 * v02))) (by kernel_rfl) ?_
        show wpAnyT _ _ _ _ _ _ 10 _ _ _
        have hS0 := Lib.hid (show (fun w' => w'.cell? ⟨w.heap.size, 3, none⟩ = some (.int .i64 v00) ∧ w'.cell? ⟨w.heap.size, 4, none⟩ = some (.int .i64 v01) ∧ w'.cell? ⟨w.heap.size, 5, none⟩ = some (.int .i64 v02) ∧ w'.cell? ⟨V.heap.size, 0, none⟩ = some (.int .i64 (u00 + -u00.tdiv v00 * v00)) ∧ w'.cell? ⟨V.heap.size, 1, none⟩ = some (.int .i64 (u01 + -u00.tdiv v00 * v01)) ∧ w'.cell? ⟨V.heap.size, 2, none⟩ = some (.int .i64 (u02 + -u00.tdiv v00 * v02))) W2.drew from ⟨l3, l4, l5, d0, d1, d2⟩)
        refine T_take (i := 0) (v := .int .i64 0) rfl (by kernel_rfl) (by kernel_rfl) (by kernel_rfl) (by kernel_rfl) (fun _ _ _ h => h) hS0.out rfl (fun w' hS' => by (try dsimp only at hS'); go_simp) ?_
        try simp only [Act.put, List.setIfInBounds_toArray]
        refine T_take (i := 1) (v := .int .i64 1) rfl (by kernel_rfl) (by kernel_rfl) (by kernel_rfl) (by kernel_rfl) (fun _ _ _ h => h) hS0.out rfl (fun w' hS' => by (try dsimp only at hS'); go_simp) ?_
        try simp only [Act.put]
        refine T_take (i := 2) (v := .int .i64 1) rfl (by kernel_rfl) (by kernel_rfl) (by kernel_rfl) (by kernel_rfl) (fun _ _ _ h => h) hS0.out rfl (fun w' hS' => by (try dsimp only at hS'); go_simp) ?_
        try simp only [Act.put]
        refine T_take (i := 3) (v := .pointer (some ⟨w.heap.size, 3, none⟩)) rfl (by kernel_rfl) (by kernel_rfl) (by kernel_rfl) (by kernel_rfl) (fun _ _ _ h => h) hS0.out rfl (fun w' hS' => by (try dsimp only at hS'); go_simp) ?_
        try simp only [Act.put]
        refine T_take (i := 4) (v := .agg #[.int .i64 v00, .int .i64 v01, .int .i64 v02]) rfl (by kernel_rfl) (by kernel_rfl) (by kernel_rfl) (by kernel_rfl) (fun _ _ _ h => h) hS0.out rfl (fun w' hS' => by (try dsimp only at hS'); go_simp) ?_
        try simp only [Act.put]
        refine T_take (i := 5) (v := .agg #[.int .i64 (u00 + -u00.tdiv v00 * v00), .int .i64 (u01 + -u00.tdiv v00 * v01), .int .i64 (u02 + -u00.tdiv v00 * v02)]) rfl (by kernel_rfl) (by kernel_rfl) (by kernel_rfl) (by kernel_rfl) (fun _ _ _ h => h) hS0.out rfl (fun w' hS' => by (try dsimp only at hS'); go_simp) ?_
        try simp only [Act.put]
        refine T_take (i := 6) (v := .pointer (some ⟨w.heap.size, 0, none⟩)) rfl (by kernel_rfl) (by kernel_rfl) (by kernel_rfl) (by kernel_rfl) (fun _ _ _ h => h) hS0.out rfl (fun w' hS' => by (try dsimp only at hS'); go_simp) ?_
        try simp only [Act.put]
        refine T_step (i := 7) rfl (by kernel_rfl) rfl rfl ?_
        intro K hK
        go_simp
        have PXD := (show G9 W2.drew w.heap.size 45 u00 u01 u02 v00 v01 v02 x6 x7 x8 from PX.out).set0 v00 v01 v02
        have PCD := (show G3 (((W2.drew.setCell ⟨w.heap.size, 0, none⟩ (.int .i64 v00)).setCell ⟨w.heap.size, 1, none⟩ (.int .i64 v01)).setCell ⟨w.heap.size, 2, none⟩ (.int .i64 v02)) V.heap.size 43 (u00 + -u00.tdiv v00 * v00) (u01 + -u00.tdiv v00 * v01) (u02 + -u00.tdiv v00 * v02) from (((PCH.out.other (p := ⟨w.heap.size, 0, none⟩) (Nat.ne_of_lt hcx) (.int .i64 v00)).other (p := ⟨w.heap.size, 1, none⟩) (Nat.ne_of_lt hcx) (.int .i64 v01)).other (p := ⟨w.heap.size, 2, none⟩) (Nat.ne_of_lt hcx) (.int .i64 v02)))
        refine hK.out _ _ ⟨PXD.cells.2.1.1, PXD.cells.2.1.2.1, PXD.cells.2.1.2.2, PCD.cells.1, PCD.cells.2.1, PCD.cells.2.2⟩ ?_
        clear hK K PXD PCD
        try simp only [Act.put, List.setIfInBounds_toArray, List.set_cons_zero, List.set_cons_succ]
        refine T_anytake (i := 8) (v := .pointer (some ⟨w.heap.size, 3, none⟩)) rfl (by kernel_rfl) (by kernel_rfl) (by kernel_rfl) rfl (fun _ _ _ h => h) rfl (fun w' => by go_simp) ?_
        try simp only [Act.put, List.setIfInBounds_toArray]
        refine T_last (i := 9) rfl (by kernel_rfl) (by kernel_rfl) rfl rfl ?_
        go_simp
        go_wp2
        have QX := Lib.hid ((PX.out.set0 v00 v01 v02).set1 (u00 + -u00.tdiv v00 * v00) (u01 + -u00.tdiv v00 * v01) (u02 + -u00.tdiv v00 * v02))
        have QR := Lib.hid (((((((PR.out.other (p := ⟨w.heap.size, 0, none⟩) (Nat.ne_of_lt (Nat.lt_succ_self _)) (.int .i64 (v00))).other (p := ⟨w.heap.size, 1, none⟩) (Nat.ne_of_lt (Nat.lt_succ_self _)) (.int .i64 (v01))).other (p := ⟨w.heap.size, 2, none⟩) (Nat.ne_of_lt (Nat.lt_succ_self _)) (.int .i64 (v02))).other (p := ⟨w.heap.size, 3, none⟩) (Nat.ne_of_lt (Nat.lt_succ_self _)) (.int .i64 (u00 + -u00.tdiv v00 * v00))).other (p := ⟨w.heap.size, 4, none⟩) (Nat.ne_of_lt (Nat.lt_succ_self _)) (.int .i64 (u01 + -u00.tdiv v00 * v01))).other (p := ⟨w.heap.size, 5, none⟩) (Nat.ne_of_lt (Nat.lt_succ_self _)) (.int .i64 (u02 + -u00.tdiv v00 * v02))))
        have QB := Lib.hid (((((((PB.out.setCell (p := ⟨w.heap.size, 0, none⟩) (Nat.le_refl _) (.int .i64 (v00))).setCell (p := ⟨w.heap.size, 1, none⟩) (Nat.le_refl _) (.int .i64 (v01))).setCell (p := ⟨w.heap.size, 2, none⟩) (Nat.le_refl _) (.int .i64 (v02))).setCell (p := ⟨w.heap.size, 3, none⟩) (Nat.le_refl _) (.int .i64 (u00 + -u00.tdiv v00 * v00))).setCell (p := ⟨w.heap.size, 4, none⟩) (Nat.le_refl _) (.int .i64 (u01 + -u00.tdiv v00 * v01))).setCell (p := ⟨w.heap.size, 5, none⟩) (Nat.le_refl _) (.int .i64 (u02 + -u00.tdiv v00 * v02))))
        have hst := HST.out
        rw [HN.out] at hst
        refine ⟨⟨v00, v01, v02, u00 + -u00.tdiv v00 * v00, u01 + -u00.tdiv v00 * v01, u02 + -u00.tdiv v00 * v02, hst, ?_, ⟨QX.out.drewn, QR.out.drewn⟩, (QB.out).drew⟩, ?_⟩
        · rw [← HN.out, ← eucl_step (by rfl) (show colA 0 [v00, v01, v02] ≠ 0 from hv), HQ.out]
        · have hr2 := rdC_of (QX.out.drewn.cells.2.1.1)
          have hcol := nextR_col (c := 0) (u := [u00, u01, u02]) (v := [v00, v01, v02]) rfl
          rw [HN.out] at hcol
          have hcol2 : u00 + -u00.tdiv v00 * v00 = u00.tmod v00 := hcol
          rw [hr2, HRD.out, hcol2, Int.natAbs_tmod]
          exact Nat.mod_lt _ (by omega)
      · go_wp2
        refine wgen ?_
        intro W2 hW
        have PX := Lib.hid (show G9 W2 w.heap.size 45 u00 u01 u02 v00 v01 v02 x6 x7 x8 by rw [hW]; exact (((M1.out.other (p := ⟨W0.heap.size, 0, none⟩) hneX (.int .i64 (u00 + -u00.tdiv v00 * v00))).other (p := ⟨W0.heap.size, 1, none⟩) hneX (.int .i64 (u01 + -u00.tdiv v00 * v01))).other (p := ⟨W0.heap.size, 2, none⟩) hneX (.int .i64 (u02 + -u00.tdiv v00 * v02))))
        have PR := Lib.hid (show G9 W2 (w.heap.size + 1) 45 0 0 0 0 0 0 0 0 0 by rw [hW]; exact (((M2.out.other (p := ⟨W0.heap.size, 0, none⟩) hneR (.int .i64 (u00 + -u00.tdiv v00 * v00))).other (p := ⟨W0.heap.size, 1, none⟩) hneR (.int .i64 (u01 + -u00.tdiv v00 * v01))).other (p := ⟨W0.heap.size, 2, none⟩) hneR (.int .i64 (u02 + -u00.tdiv v00 * v02))))
        have PB := Lib.hid (show Below w.heap.size w W2 by rw [hW]; exact (((BA.out.setCell (p := ⟨W0.heap.size, 0, none⟩) HBw.out.size (.int .i64 (u00 + -u00.tdiv v00 * v00))).setCell (p := ⟨W0.heap.size, 1, none⟩) HBw.out.size (.int .i64 (u01 + -u00.tdiv v00 * v01))).setCell (p := ⟨W0.heap.size, 2, none⟩) HBw.out.size (.int .i64 (u02 + -u00.tdiv v00 * v02))))
        have PC := (show G3 W2 W0.heap.size 43 (u00 + -u00.tdiv v00 * v00) (u01 + -u00.tdiv v00 * v01) (u02 + -u00.tdiv v00 * v02) by rw [hW]; exact ((C3.set0 (u00 + -u00.tdiv v00 * v00)).set1 (u01 + -u00.tdiv v00 * v01)).set2 (u02 + -u00.tdiv v00 * v02))
        have hcx : w.heap.size < W0.heap.size := HX.out.lt
        obtain ⟨d0, d1, d2⟩ := PC.cells
        have PCH := Lib.hid (show G3 W2.drew W0.heap.size 43 (u00 + -u00.tdiv v00 * v00) (u01 + -u00.tdiv v00 * v01) (u02 + -u00.tdiv v00 * v02) from PC)
        clear hW PC l0 l1 l2 l3 l4 l5 l6 l7 l8 hl C3 c0 c1 c2 g0 g1 g2
        obtain ⟨⟨l0, l1, l2⟩, ⟨l3, l4, l5⟩, l6, l7, l8⟩ := PX.out.cells
        have fa0 := PX.out.frozen 0
        have fb0 := PX.out.frozen 3
        have fa1 := PX.out.frozen 1
        have fb1 := PX.out.frozen 4
        have fa2 := PX.out.frozen 2
        have fb2 := PX.out.frozen 5
        refine T_begin (z := fun k => 7 < k) (S := fun w' => w'.cell? ⟨w.heap.size, 3, none⟩ = some (.int .i64 v00) ∧ w'.cell? ⟨w.heap.size, 4, none⟩ = some (.int .i64 v01) ∧ w'.cell? ⟨w.heap.size, 5, none⟩ = some (.int .i64 v02) ∧ w'.cell? ⟨W0.heap.size, 0, none⟩ = some (.int .i64 (u00 + -u00.tdiv v00 * v00)) ∧ w'.cell? ⟨W0.heap.size, 1, none⟩ = some (.int .i64 (u01 + -u00.tdiv v00 * v01)) ∧ w'.cell? ⟨W0.heap.size, 2, none⟩ = some (.int .i64 (u02 + -u00.tdiv v00 * v02))) (by kernel_rfl) ?_
        show wpAnyT _ _ _ _ _ _ 10 _ _ _
        have hS0 := Lib.hid (show (fun w' => w'.cell? ⟨w.heap.size, 3, none⟩ = some (.int .i64 v00) ∧ w'.cell? ⟨w.heap.size, 4, none⟩ = some (.int .i64 v01) ∧ w'.cell? ⟨w.heap.size, 5, none⟩ = some (.int .i64 v02) ∧ w'.cell? ⟨W0.heap.size, 0, none⟩ = some (.int .i64 (u00 + -u00.tdiv v00 * v00)) ∧ w'.cell? ⟨W0.heap.size, 1, none⟩ = some (.int .i64 (u01 + -u00.tdiv v00 * v01)) ∧ w'.cell? ⟨W0.heap.size, 2, none⟩ = some (.int .i64 (u02 + -u00.tdiv v00 * v02))) W2.drew from ⟨l3, l4, l5, d0, d1, d2⟩)
        refine T_take (i := 0) (v := .int .i64 0) rfl (by kernel_rfl) (by kernel_rfl) (by kernel_rfl) (by kernel_rfl) (fun _ _ _ h => h) hS0.out rfl (fun w' hS' => by (try dsimp only at hS'); go_simp) ?_
        try simp only [Act.put, List.setIfInBounds_toArray]
        refine T_take (i := 1) (v := .int .i64 1) rfl (by kernel_rfl) (by kernel_rfl) (by kernel_rfl) (by kernel_rfl) (fun _ _ _ h => h) hS0.out rfl (fun w' hS' => by (try dsimp only at hS'); go_simp) ?_
        try simp only [Act.put]
        refine T_take (i := 2) (v := .int .i64 1) rfl (by kernel_rfl) (by kernel_rfl) (by kernel_rfl) (by kernel_rfl) (fun _ _ _ h => h) hS0.out rfl (fun w' hS' => by (try dsimp only at hS'); go_simp) ?_
        try simp only [Act.put]
        refine T_take (i := 3) (v := .pointer (some ⟨w.heap.size, 3, none⟩)) rfl (by kernel_rfl) (by kernel_rfl) (by kernel_rfl) (by kernel_rfl) (fun _ _ _ h => h) hS0.out rfl (fun w' hS' => by (try dsimp only at hS'); go_simp) ?_
        try simp only [Act.put]
        refine T_take (i := 4) (v := .agg #[.int .i64 v00, .int .i64 v01, .int .i64 v02]) rfl (by kernel_rfl) (by kernel_rfl) (by kernel_rfl) (by kernel_rfl) (fun _ _ _ h => h) hS0.out rfl (fun w' hS' => by (try dsimp only at hS'); go_simp) ?_
        try simp only [Act.put]
        refine T_take (i := 5) (v := .agg #[.int .i64 (u00 + -u00.tdiv v00 * v00), .int .i64 (u01 + -u00.tdiv v00 * v01), .int .i64 (u02 + -u00.tdiv v00 * v02)]) rfl (by kernel_rfl) (by kernel_rfl) (by kernel_rfl) (by kernel_rfl) (fun _ _ _ h => h) hS0.out rfl (fun w' hS' => by (try dsimp only at hS'); go_simp) ?_
        try simp only [Act.put]
        refine T_take (i := 6) (v := .pointer (some ⟨w.heap.size, 0, none⟩)) rfl (by kernel_rfl) (by kernel_rfl) (by kernel_rfl) (by kernel_rfl) (fun _ _ _ h => h) hS0.out rfl (fun w' hS' => by (try dsimp only at hS'); go_simp) ?_
        try simp only [Act.put]
        refine T_step (i := 7) rfl (by kernel_rfl) rfl rfl ?_
        intro K hK
        go_simp
        have PXD := (show G9 W2.drew w.heap.size 45 u00 u01 u02 v00 v01 v02 x6 x7 x8 from PX.out).set0 v00 v01 v02
        have PCD := (show G3 (((W2.drew.setCell ⟨w.heap.size, 0, none⟩ (.int .i64 v00)).setCell ⟨w.heap.size, 1, none⟩ (.int .i64 v01)).setCell ⟨w.heap.size, 2, none⟩ (.int .i64 v02)) W0.heap.size 43 (u00 + -u00.tdiv v00 * v00) (u01 + -u00.tdiv v00 * v01) (u02 + -u00.tdiv v00 * v02) from (((PCH.out.other (p := ⟨w.heap.size, 0, none⟩) (Nat.ne_of_lt hcx) (.int .i64 v00)).other (p := ⟨w.heap.size, 1, none⟩) (Nat.ne_of_lt hcx) (.int .i64 v01)).other (p := ⟨w.heap.size, 2, none⟩) (Nat.ne_of_lt hcx) (.int .i64 v02)))
        refine hK.out _ _ ⟨PXD.cells.2.1.1, PXD.cells.2.1.2.1, PXD.cells.2.1.2.2, PCD.cells.1, PCD.cells.2.1, PCD.cells.2.2⟩ ?_
        clear hK K PXD PCD
        try simp only [Act.put, List.setIfInBounds_toArray, List.set_cons_zero, List.set_cons_succ]
        refine T_anytake (i := 8) (v := .pointer (some ⟨w.heap.size, 3, none⟩)) rfl (by kernel_rfl) (by kernel_rfl) (by kernel_rfl) rfl (fun _ _ _ h => h) rfl (fun w' => by go_simp) ?_
        try simp only [Act.put, List.setIfInBounds_toArray]
        refine T_last (i := 9) rfl (by kernel_rfl) (by kernel_rfl) rfl rfl ?_
        go_simp
        go_wp2
        have QX := Lib.hid ((PX.out.set0 v00 v01 v02).set1 (u00 + -u00.tdiv v00 * v00) (u01 + -u00.tdiv v00 * v01) (u02 + -u00.tdiv v00 * v02))
        have QR := Lib.hid (((((((PR.out.other (p := ⟨w.heap.size, 0, none⟩) (Nat.ne_of_lt (Nat.lt_succ_self _)) (.int .i64 (v00))).other (p := ⟨w.heap.size, 1, none⟩) (Nat.ne_of_lt (Nat.lt_succ_self _)) (.int .i64 (v01))).other (p := ⟨w.heap.size, 2, none⟩) (Nat.ne_of_lt (Nat.lt_succ_self _)) (.int .i64 (v02))).other (p := ⟨w.heap.size, 3, none⟩) (Nat.ne_of_lt (Nat.lt_succ_self _)) (.int .i64 (u00 + -u00.tdiv v00 * v00))).other (p := ⟨w.heap.size, 4, none⟩) (Nat.ne_of_lt (Nat.lt_succ_self _)) (.int .i64 (u01 + -u00.tdiv v00 * v01))).other (p := ⟨w.heap.size, 5, none⟩) (Nat.ne_of_lt (Nat.lt_succ_self _)) (.int .i64 (u02 + -u00.tdiv v00 * v02))))
        have QB := Lib.hid (((((((PB.out.setCell (p := ⟨w.heap.size, 0, none⟩) (Nat.le_refl _) (.int .i64 (v00))).setCell (p := ⟨w.heap.size, 1, none⟩) (Nat.le_refl _) (.int .i64 (v01))).setCell (p := ⟨w.heap.size, 2, none⟩) (Nat.le_refl _) (.int .i64 (v02))).setCell (p := ⟨w.heap.size, 3, none⟩) (Nat.le_refl _) (.int .i64 (u00 + -u00.tdiv v00 * v00))).setCell (p := ⟨w.heap.size, 4, none⟩) (Nat.le_refl _) (.int .i64 (u01 + -u00.tdiv v00 * v01))).setCell (p := ⟨w.heap.size, 5, none⟩) (Nat.le_refl _) (.int .i64 (u02 + -u00.tdiv v00 * v02))))
        have hst := HST.out
        rw [HN.out] at hst
        refine ⟨⟨v00, v01, v02, u00 + -u00.tdiv v00 * v00, u01 + -u00.tdiv v00 * v01, u02 + -u00.tdiv v00 * v02, hst, ?_, ⟨QX.out.drewn, QR.out.drewn⟩, (QB.out).drew⟩, ?_⟩
        · rw [← HN.out, ← eucl_step (by rfl) (show colA 0 [v00, v01, v02] ≠ 0 from hv), HQ.out]
        · have hr2 := rdC_of (QX.out.drewn.cells.2.1.1)
          have hcol := nextR_col (c := 0) (u := [u00, u01, u02]) (v := [v00, v01, v02]) rfl
          rw [HN.out] at hcol
          have hcol2 : u00 + -u00.tdiv v00 * v00 = u00.tmod v00 := hcol
          rw [hr2, HRD.out, hcol2, Int.natAbs_tmod]
          exact Nat.mod_lt _ (by omega)

set_option maxRecDepth 100000 in
set_option maxHeartbeats 8000000 in
theorem i_clear1 (x0 x1 x2 x3 x4 x5 x6 x7 x8 : Int) (w : World) (hE : ∀ j, 1 + 1 + j < 3 → ∃ A : Int, Eu 1 3 80400000000 A ((pairsH 1 [[x0, x1, x2], [x3, x4, x5], [x6, x7, x8]] j).getD 1 []) ((pairsH 1 [[x0, x1, x2], [x3, x4, x5], [x6, x7, x8]] j).getD (1 + 1 + j) [])) (hB : ∀ u, (pairsH 1 [[x0, x1, x2], [x3, x4, x5], [x6, x7, x8]] (2 - 1))[1]? = some u → Bd u 400000000000000000) :
    Calls Tryz.prog 60 #[.agg #[.int .i64 x0, .int .i64 x1, .int .i64 x2, .int .i64 x3, .int .i64 x4, .int .i64 x5, .int .i64 x6, .int .i64 x7, .int .i64 x8], .int .i64 1] w (ClearP 1 [[x0, x1, x2], [x3, x4, x5], [x6, x7, x8]] w) := by
  have HE := Lib.hid hE
  have HB := Lib.hid hB
  clear hE hB
  have HZ0 := Lib.hid (show pairsH 1 [[x0, x1, x2], [x3, x4, x5], [x6, x7, x8]] 0 = [[x0, x1, x2], [x3, x4, x5], [x6, x7, x8]] from rfl)
  go_enter Tryz.func60, Tryz.ntmps60
  go_wp2
  refine wp_loop_rounds 2 ?_
  rw [rounds_succ]
  go_wp2
  obtain ⟨A0, hEu⟩ := HE.out 0 (by omega)
  rw [HZ0.out] at hEu
  have HEu0 := Lib.hid (show Eu 1 3 80400000000 A0 [x3, x4, x5] [x6, x7, x8] from hEu)
  clear hEu
  go_loopw [] (fun wr => ∃ u00 u01 u02 v00 v01 v02 : Int, Eu 1 3 80400000000 A0 [u00, u01, u02] [v00, v01, v02] ∧ eucl 1 [u00, u01, u02] [v00, v01, v02] = eucl 1 [x3, x4, x5] [x6, x7, x8] ∧ (G9 wr w.heap.size 45 x0 x1 x2 u00 u01 u02 v00 v01 v02 ∧ G9 wr (w.heap.size + 1) 45 0 0 0 0 0 0 0 0 0) ∧ Below w.heap.size w wr) (fun wr => rdC wr w.heap.size 7)
  case atStart => exact ⟨_, _, _, _, _, _, HEu0.out, rfl, ⟨(G9.new w 45 x0 x1 x2 x3 x4 x5 x6 x7 x8).below ((Below.refl _ _).alloc (Nat.le_refl _) (.cells #[.int .i64 0, .int .i64 0, .int .i64 0, .int .i64 0, .int .i64 0, .int .i64 0, .int .i64 0, .int .i64 0, .int .i64 0] 45)), G9.newAt (w := w.alloc (.cells #[.int .i64 x0, .int .i64 x1, .int .i64 x2, .int .i64 x3, .int .i64 x4, .int .i64 x5, .int .i64 x6, .int .i64 x7, .int .i64 x8] 45)) (B := w.heap.size + 1) (by simp) 45 0 0 0 0 0 0 0 0 0⟩, ((Below.refl w.heap.size w).alloc (Nat.le_refl _) _).alloc (by simp) _⟩
  case round =>
    obtain ⟨u00, u01, u02, v00, v01, v02, he, hq, ⟨hx, hr⟩, hbr⟩ := hrel
    rename World => W0
    have HX := Lib.hid hx
    have HR := Lib.hid hr
    have HBw := Lib.hid hbr
    have HEu := Lib.hid he
    have HQ := Lib.hid hq
    clear hx hr hbr he hq
    obtain ⟨⟨l0, l1, l2⟩, ⟨l3, l4, l5⟩, l6, l7, l8⟩ := HX.out.cells
    have HRD := Lib.hid (rdC_of l7)
    have hxl := HX.out.lt
    by_cases hv : v01 = 0
    · subst hv
      have e2 := HQ.out
      rw [eucl_end (show colA 1 [v00, 0, v02] = 0 from rfl)] at e2
      have HZ1 := Lib.hid (show pairsH 1 [[x0, x1, x2], [x3, x4, x5], [x6, x7, x8]] 1 = [[x0, x1, x2], [u00, u01, u02], [v00, 0, v02]] by
        show pairH 1 2 (pairsH 1 [[x0, x1, x2], [x3, x4, x5], [x6, x7, x8]] 0) = _
        rw [HZ0.out]
        unfold pairH
        rw [show ([[x0, x1, x2], [x3, x4, x5], [x6, x7, x8]] : List (List Int)).getD 1 [] = [x3, x4, x5] from rfl, show ([[x0, x1, x2], [x3, x4, x5], [x6, x7, x8]] : List (List Int)).getD 2 [] = [x6, x7, x8] from rfl, ← e2]
        rfl)
      clear e2 HQ HEu HRD HEu0
      go_wp2
      clear l0 l1 l2 l3 l4 l5 l6 l7 l8 hxl
      rw [rounds_succ]
      have hb3 := bd_three (HB.out [u00, u01, u02] (by rw [HZ1.out]; rfl))
      obtain ⟨⟨h1, h2⟩, ⟨h3, h4⟩, h5, h6⟩ := hb3
      by_cases hneg : u01 < 0
      · have hn2 : negH 1 [[x0, x1, x2], [u00, u01, u02], [v00, 0, v02]] = [[x0, x1, x2], [-1 * u00, -1 * u01, -1 * u02], [v00, 0, v02]] := by
          unfold negH
          rw [show ([[x0, x1, x2], [u00, u01, u02], [v00, 0, v02]] : List (List Int)).getD 1 [] = [u00, u01, u02] from rfl, if_pos (show colA 1 [u00, u01, u02] < 0 from hneg)]
          simp [scaleL, Int.mul_comm]
        have HN2 := Lib.hid hn2
        clear hn2
        obtain ⟨⟨l0, l1, l2⟩, ⟨l3, l4, l5⟩, l6, l7, l8⟩ := HX.out.cells
        go_wp2_with fail
        refine (i_addz (-1) u00 u01 u02 _ (by omega) (by omega) (by omega)).mono ?_
        rintro e V ⟨rfl, hb⟩
        have KX := Lib.hid (HX.out.below hb)
        have KR := Lib.hid (HR.out.below hb)
        have KB := Lib.hid (HBw.out.trans (hb.mono HBw.out.size))
        clear hb l0 l1 l2 l3 l4 l5 l6 l7 l8
        obtain ⟨⟨l0, l1, l2⟩, ⟨l3, l4, l5⟩, l6, l7, l8⟩ := KX.out.cells
        have fx0 := KX.out.frozen 3
        have fx1 := KX.out.frozen 4
        have fx2 := KX.out.frozen 5
        obtain ⟨⟨j0, j1, j2⟩, ⟨j3, j4, j5⟩, j6, j7, j8⟩ := KR.out.cells
        have f0 := KR.out.frozen 0
        have f1 := KR.out.frozen 1
        have f2 := KR.out.frozen 2
        have f3 := KR.out.frozen 3
        have f4 := KR.out.frozen 4
        have f5 := KR.out.frozen 5
        have f6 := KR.out.frozen 6
        have f7 := KR.out.frozen 7
        have f8 := KR.out.frozen 8
        go_wp2
        refine bodyPost_ret (v := .agg #[.int .i64 x0, .int .i64 x1, .int .i64 x2, .int .i64 (-1 * u00), .int .i64 (-1 * u01), .int .i64 (-1 * u02), .int .i64 v00, .int .i64 0, .int .i64 v02]) ?_ rfl ⟨_, _, _, _, _, _, _, _, _, ?_, rfl, ((((((((((((KB.out.setCell (p := ⟨w.heap.size, 3, none⟩) (Nat.le_refl _) _).setCell (p := ⟨w.heap.size, 4, none⟩) (Nat.le_refl _) _).setCell (p := ⟨w.heap.size, 5, none⟩) (Nat.le_refl _) _).setCell (p := ⟨w.heap.size + 1, 0, none⟩) (Nat.le_succ _) _).setCell (p := ⟨w.heap.size + 1, 1, none⟩) (Nat.le_succ _) _).setCell (p := ⟨w.heap.size + 1, 2, none⟩) (Nat.le_succ _) _).setCell (p := ⟨w.heap.size + 1, 3, none⟩) (Nat.le_succ _) _).setCell (p := ⟨w.heap.size + 1, 4, none⟩) (Nat.le_succ _) _).setCell (p := ⟨w.heap.size + 1, 5, none⟩) (Nat.le_succ _) _).setCell (p := ⟨w.heap.size + 1, 6, none⟩) (Nat.le_succ _) _).setCell (p := ⟨w.heap.size + 1, 7, none⟩) (Nat.le_succ _) _).setCell (p := ⟨w.heap.size + 1, 8, none⟩) (Nat.le_succ _) _)⟩
        · simp [results, Tryz.results60, go_sem, j0, j1, j2, j3, j4, j5, j6, j7, j8]
        · show negH 1 (pairsH 1 [[x0, x1, x2], [x3, x4, x5], [x6, x7, x8]] 1) = _
          rw [HZ1.out, HN2.out]
      · have hn2 : negH 1 [[x0, x1, x2], [u00, u01, u02], [v00, 0, v02]] = [[x0, x1, x2], [u00, u01, u02], [v00, 0, v02]] := by
          unfold negH
          rw [show ([[x0, x1, x2], [u00, u01, u02], [v00, 0, v02]] : List (List Int)).getD 1 [] = [u00, u01, u02] from rfl, if_neg (show ¬ colA 1 [u00, u01, u02] < 0 from hneg)]
        have hge : 0 ≤ u01 := by omega
        have HN2 := Lib.hid hn2
        clear hn2
        obtain ⟨⟨l0, l1, l2⟩, ⟨l3, l4, l5⟩, l6, l7, l8⟩ := HX.out.cells
        obtain ⟨⟨j0, j1, j2⟩, ⟨j3, j4, j5⟩, j6, j7, j8⟩ := HR.out.cells
        have f0 := HR.out.frozen 0
        have f1 := HR.out.frozen 1
        have f2 := HR.out.frozen 2
        have f3 := HR.out.frozen 3
        have f4 := HR.out.frozen 4
        have f5 := HR.out.frozen 5
        have f6 := HR.out.frozen 6
        have f7 := HR.out.frozen 7
        have f8 := HR.out.frozen 8
        go_wp2
        refine bodyPost_ret (v := .agg #[.int .i64 x0, .int .i64 x1, .int .i64 x2, .int .i64 u00, .int .i64 u01, .int .i64 u02, .int .i64 v00, .int .i64 0, .int .i64 v02]) ?_ rfl ⟨_, _, _, _, _, _, _, _, _, ?_, rfl, (((((((((HBw.out.setCell (p := ⟨w.heap.size + 1, 0, none⟩) (Nat.le_succ _) _).setCell (p := ⟨w.heap.size + 1, 1, none⟩) (Nat.le_succ _) _).setCell (p := ⟨w.heap.size + 1, 2, none⟩) (Nat.le_succ _) _).setCell (p := ⟨w.heap.size + 1, 3, none⟩) (Nat.le_succ _) _).setCell (p := ⟨w.heap.size + 1, 4, none⟩) (Nat.le_succ _) _).setCell (p := ⟨w.heap.size + 1, 5, none⟩) (Nat.le_succ _) _).setCell (p := ⟨w.heap.size + 1, 6, none⟩) (Nat.le_succ _) _).setCell (p := ⟨w.heap.size + 1, 7, none⟩) (Nat.le_succ _) _).setCell (p := ⟨w.heap.size + 1, 8, none⟩) (Nat.le_succ _) _)⟩
        · simp [results, Tryz.results60, go_sem, j0, j1, j2, j3, j4, j5, j6, j7, j8]
        · show negH 1 (pairsH 1 [[x0, x1, x2], [x3, x4, x5], [x6, x7, x8]] 1) = _
          rw [HZ1.out, HN2.out]
    · have hne : (v01 != 0) = true := by rw [bne_iff_ne]; exact hv
      have hne2 : (v01 == 0) = false := by rw [beq_eq_false_iff_ne]; exact hv
      have hstep := HEu.out.step (show colA 1 [v00, v01, v02] ≠ 0 from hv)
      have hbu := bd_three hstep.2.2.1
      have hbv := bd_three hstep.2.2.2
      have hbs := bd_three (show Bd [v00 * u01.tdiv v01, v01 * u01.tdiv v01, v02 * u01.tdiv v01] 80400000000 from hstep.2.1)
      have hqb := tdiv_bd3 (g := v01) hbu.2.1.1 hbu.2.1.2
      have HN := Lib.hid (next_three 1 u00 u01 u02 v00 v01 v02 (u01.tdiv v01) rfl)
      have HST := Lib.hid hstep.1
      have hqw : IntKind.i64.wrap (u01.tdiv v01) = u01.tdiv v01 := IntWalk.i64_in _ (by omega)
      have hqn : IntKind.i64.wrap (-(u01.tdiv v01)) = -(u01.tdiv v01) := IntWalk.i64_in _ (by omega)
      have CT := Lib.hid (fun W => i_addt u00 u01 u02 (-(u01.tdiv v01)) v00 v01 v02 W (by omega) (by omega) (by omega) (by rw [Int.neg_mul, Int.mul_comm]; omega) (by rw [Int.neg_mul, Int.mul_comm]; omega) (by rw [Int.neg_mul, Int.mul_comm]; omega))
      clear hstep hbu hbv hbs hqb
      have hneX : W0.heap.size ≠ w.heap.size := Nat.ne_of_gt HX.out.lt
      have hneR : W0.heap.size ≠ w.heap.size + 1 := Nat.ne_of_gt HR.out.lt
      go_wp2
      go_region_held3 (fun w' => w'.cell? ⟨w.heap.size, 0, none⟩ = some (.int .i64 x0) ∧ w'.cell? ⟨w.heap.size, 1, none⟩ = some (.int .i64 x1) ∧ w'.cell? ⟨w.heap.size, 2, none⟩ = some (.int .i64 x2) ∧ w'.cell? ⟨w.heap.size, 3, none⟩ = some (.int .i64 u00) ∧ w'.cell? ⟨w.heap.size, 4, none⟩ = some (.int .i64 u01) ∧ w'.cell? ⟨w.heap.size, 5, none⟩ = some (.int .i64 u02) ∧ w'.cell? ⟨w.heap.size, 6, none⟩ = some (.int .i64 v00) ∧ w'.cell? ⟨w.heap.size, 7, none⟩ = some (.int .i64 v01) ∧ w'.cell? ⟨w.heap.size, 8, none⟩ = some (.int .i64 v02))
        (first | (with_reducible exact HX.out.cells9D) | (with_reducible exact M1.out.cells9) | (with_reducible exact (M1.out.allocd _).cells9) | (with_reducible exact (((M1.out.other (p := ⟨W0.heap.size, 0, none⟩) hneX _).other (p := ⟨W0.heap.size, 1, none⟩) hneX _).other (p := ⟨W0.heap.size, 2, none⟩) hneX _).cells9) | (with_reducible exact (HX.out.allocd _).cells9D))
        (first | (go_at_call 62; (with_reducible refine (CT.out W0.drew).mono ?_); rintro e V ⟨rfl, hb⟩; have M1 := Lib.hid (HX.out.belowE hb); have M2 := Lib.hid (HR.out.belowE hb); have BA := Lib.hid ((HBw.out.drew).trans (hb.mono HBw.out.size)); have hl := M1.out.lt; clear hb) | (go_at_call 62; refine (CT.out _).mono ?_; rintro e V ⟨rfl, hb⟩; have M1 := Lib.hid (HX.out.belowA hb); have M2 := Lib.hid (HR.out.belowA hb); have BA := Lib.hid (((HBw.out.drew).alloc HBw.out.size _).trans (hb.mono (Nat.le_trans HBw.out.size (size_drew_alloc W0 _)))); have hl := M1.out.lt; have C3 := (G3.newAt (w := W0.drew) (B := W0.heap.size) rfl 43 0 0 0).below hb; obtain ⟨c0, c1, c2⟩ := C3.cells; have g0 := C3.frozen 0; have g1 := C3.frozen 1; have g2 := C3.frozen 2; clear hb))
      · go_wp2
        refine wgen ?_
        intro W2 hW
        have PX := Lib.hid (show G9 W2 w.heap.size 45 x0 x1 x2 u00 u01 u02 v00 v01 v02 by rw [hW]; exact M1.out.below ((Below.refl _ _).alloc (Nat.le_refl _) _))
        have PR := Lib.hid (show G9 W2 (w.heap.size + 1) 45 0 0 0 0 0 0 0 0 0 by rw [hW]; exact M2.out.below ((Below.refl _ _).alloc (Nat.le_refl _) _))
        have PB := Lib.hid (show Below w.heap.size w W2 by rw [hW]; exact BA.out.alloc BA.out.size _)
        have PC := (show G3 W2 V.heap.size 43 (u00 + -u01.tdiv v01 * v00) (u01 + -u01.tdiv v01 * v01) (u02 + -u01.tdiv v01 * v02) by rw [hW]; exact G3.newAt rfl 43 (u00 + -u01.tdiv v01 * v00) (u01 + -u01.tdiv v01 * v01) (u02 + -u01.tdiv v01 * v02))
        have hcx : w.heap.size < V.heap.size := M1.out.lt
        obtain ⟨d0, d1, d2⟩ := PC.cells
        have PCH := Lib.hid (show G3 W2.drew V.heap.size 43 (u00 + -u01.tdiv v01 * v00) (u01 + -u01.tdiv v01 * v01) (u02 + -u01.tdiv v01 * v02) from PC)
        clear hW PC l0 l1 l2 l3 l4 l5 l6 l7 l8 hl
        obtain ⟨⟨l0, l1, l2⟩, ⟨l3, l4, l5⟩, l6, l7, l8⟩ := PX.out.cells
        have fa0 := PX.out.frozen 3
        have fb0 := PX.out.frozen 6
        have fa1 := PX.out.frozen 4
        have fb1 := PX.out.frozen 7
        have fa2 := PX.out.frozen 5
        have fb2 := PX.out.frozen 8
        refine T_begin (z := fun k => 7 < k) (S := fun w' => w'.cell? ⟨w.heap.size, 6, none⟩ = some (.int .i64 v00) ∧ w'.cell? ⟨w.heap.size, 7, none⟩ = some (.int .i64 v01) ∧ w'.cell? ⟨w.heap.size, 8, none⟩ = some (.int .i64 v02) ∧ w'.cell? ⟨V.heap.size, 0, none⟩ = some (.int .i64 (u00 + -u01.tdiv v01 * v00)) ∧ w'.cell? ⟨V.heap.size, 1, none⟩ = some (.int .i64 (u01 + -u01.tdiv v01 * v01)) ∧ w'.cell? ⟨V.heap.size, 2, none⟩ = some (.int .i64 (u02 + -u01.tdiv v01 * v02))) (by kernel_rfl) ?_
        show wpAnyT _ _ _ _ _ _ 10 _ _ _
        have hS0 := Lib.hid (show (fun w' => w'.cell? ⟨w.heap.size, 6, none⟩ = some (.int .i64 v00) ∧ w'.cell? ⟨w.heap.size, 7, none⟩ = some (.int .i64 v01) ∧ w'.cell? ⟨w.heap.size, 8, none⟩ = some (.int .i64 v02) ∧ w'.cell? ⟨V.heap.size, 0, none⟩ = some (.int .i64 (u00 + -u01.tdiv v01 * v00)) ∧ w'.cell? ⟨V.heap.size, 1, none⟩ = some (.int .i64 (u01 + -u01.tdiv v01 * v01)) ∧ w'.cell? ⟨V.heap.size, 2, none⟩ = some (.int .i64 (u02 + -u01.tdiv v01 * v02))) W2.drew from ⟨l6, l7, l8, d0, d1, d2⟩)
        refine T_take (i := 0) (v := .int .i64 1) rfl (by kernel_rfl) (by kernel_rfl) (by kernel_rfl) (by kernel_rfl) (fun _ _ _ h => h) hS0.out rfl (fun w' hS' => by (try dsimp only at hS'); go_simp) ?_
        try simp only [Act.put, List.setIfInBounds_toArray]
        refine T_take (i := 1) (v := .int .i64 2) rfl (by kernel_rfl) (by kernel_rfl) (by kernel_rfl) (by kernel_rfl) (fun _ _ _ h => h) hS0.out rfl (fun w' hS' => by (try dsimp only at hS'); go_simp) ?_
        try simp only [Act.put]
        refine T_take (i := 2) (v := .int .i64 2) rfl (by kernel_rfl) (by kernel_rfl) (by kernel_rfl) (by kernel_rfl) (fun _ _ _ h => h) hS0.out rfl (fun w' hS' => by (try dsimp only at hS'); go_simp) ?_
        try simp only [Act.put]
        refine T_take (i := 3) (v := .pointer (some ⟨w.heap.size, 6, none⟩)) rfl (by kernel_rfl) (by kernel_rfl) (by kernel_rfl) (by kernel_rfl) (fun _ _ _ h => h) hS0.out rfl (fun w' hS' => by (try dsimp only at hS'); go_simp) ?_
        try simp only [Act.put]
        refine T_take (i := 4) (v := .agg #[.int .i64 v00, .int .i64 v01, .int .i64 v02]) rfl (by kernel_rfl) (by kernel_rfl) (by kernel_rfl) (by kernel_rfl) (fun _ _ _ h => h) hS0.out rfl (fun w' hS' => by (try dsimp only at hS'); go_simp) ?_
        try simp only [Act.put]
        refine T_take (i := 5) (v := .agg #[.int .i64 (u00 + -u01.tdiv v01 * v00), .int .i64 (u01 + -u01.tdiv v01 * v01), .int .i64 (u02 + -u01.tdiv v01 * v02)]) rfl (by kernel_rfl) (by kernel_rfl) (by kernel_rfl) (by kernel_rfl) (fun _ _ _ h => h) hS0.out rfl (fun w' hS' => by (try dsimp only at hS'); go_simp) ?_
        try simp only [Act.put]
        refine T_take (i := 6) (v := .pointer (some ⟨w.heap.size, 3, none⟩)) rfl (by kernel_rfl) (by kernel_rfl) (by kernel_rfl) (by kernel_rfl) (fun _ _ _ h => h) hS0.out rfl (fun w' hS' => by (try dsimp only at hS'); go_simp) ?_
        try simp only [Act.put]
        refine T_step (i := 7) rfl (by kernel_rfl) rfl rfl ?_
        intro K hK
        go_simp
        have PXD := (show G9 W2.drew w.heap.size 45 x0 x1 x2 u00 u01 u02 v00 v01 v02 from PX.out).set1 v00 v01 v02
        have PCD := (show G3 (((W2.drew.setCell ⟨w.heap.size, 3, none⟩ (.int .i64 v00)).setCell ⟨w.heap.size, 4, none⟩ (.int .i64 v01)).setCell ⟨w.heap.size, 5, none⟩ (.int .i64 v02)) V.heap.size 43 (u00 + -u01.tdiv v01 * v00) (u01 + -u01.tdiv v01 * v01) (u02 + -u01.tdiv v01 * v02) from (((PCH.out.other (p := ⟨w.heap.size, 3, none⟩) (Nat.ne_of_lt hcx) (.int .i64 v00)).other (p := ⟨w.heap.size, 4, none⟩) (Nat.ne_of_lt hcx) (.int .i64 v01)).other (p := ⟨w.heap.size, 5, none⟩) (Nat.ne_of_lt hcx) (.int .i64 v02)))
        refine hK.out _ _ ⟨PXD.cells.2.2.1, PXD.cells.2.2.2.1, PXD.cells.2.2.2.2, PCD.cells.1, PCD.cells.2.1, PCD.cells.2.2⟩ ?_
        clear hK K PXD PCD
        try simp only [Act.put, List.setIfInBounds_toArray, List.set_cons_zero, List.set_cons_succ]
        refine T_anytake (i := 8) (v := .pointer (some ⟨w.heap.size, 6, none⟩)) rfl (by kernel_rfl) (by kernel_rfl) (by kernel_rfl) rfl (fun _ _ _ h => h) rfl (fun w' => by go_simp) ?_
        try simp only [Act.put, List.setIfInBounds_toArray]
        refine T_last (i := 9) rfl (by kernel_rfl) (by kernel_rfl) rfl rfl ?_
        go_simp
        go_wp2
        have QX := Lib.hid ((PX.out.set1 v00 v01 v02).set2 (u00 + -u01.tdiv v01 * v00) (u01 + -u01.tdiv v01 * v01) (u02 + -u01.tdiv v01 * v02))
        have QR := Lib.hid (((((((PR.out.other (p := ⟨w.heap.size, 3, none⟩) (Nat.ne_of_lt (Nat.lt_succ_self _)) (.int .i64 (v00))).other (p := ⟨w.heap.size, 4, none⟩) (Nat.ne_of_lt (Nat.lt_succ_self _)) (.int .i64 (v01))).other (p := ⟨w.heap.size, 5, none⟩) (Nat.ne_of_lt (Nat.lt_succ_self _)) (.int .i64 (v02))).other (p := ⟨w.heap.size, 6, none⟩) (Nat.ne_of_lt (Nat.lt_succ_self _)) (.int .i64 (u00 + -u01.tdiv v01 * v00))).other (p := ⟨w.heap.size, 7, none⟩) (Nat.ne_of_lt (Nat.lt_succ_self _)) (.int .i64 (u01 + -u01.tdiv v01 * v01))).other (p := ⟨w.heap.size, 8, none⟩) (Nat.ne_of_lt (Nat.lt_succ_self _)) (.int .i64 (u02 + -u01.tdiv v01 * v02))))
        have QB := Lib.hid (((((((PB.out.setCell (p := ⟨w.heap.size, 3, none⟩) (Nat.le_refl _) (.int .i64 (v00))).setCell (p := ⟨w.heap.size, 4, none⟩) (Nat.le_refl _) (.int .i64 (v01))).setCell (p := ⟨w.heap.size, 5, none⟩) (Nat.le_refl _) (.int .i64 (v02))).setCell (p := ⟨w.heap.size, 6, none⟩) (Nat.le_refl _) (.int .i64 (u00 + -u01.tdiv v01 * v00))).setCell (p := ⟨w.heap.size, 7, none⟩) (Nat.le_refl _) (.int .i64 (u01 + -u01.tdiv v01 * v01))).setCell (p := ⟨w.heap.size, 8, none⟩) (Nat.le_refl _) (.int .i64 (u02 + -u01.tdiv v01 * v02))))
        have hst := HST.out
        rw [HN.out] at hst
        refine ⟨⟨v00, v01, v02, u00 + -u01.tdiv v01 * v00, u01 + -u01.tdiv v01 * v01, u02 + -u01.tdiv v01 * v02, hst, ?_, ⟨QX.out.drewn, QR.out.drewn⟩, (QB.out).drew⟩, ?_⟩
        · rw [← HN.out, ← eucl_step (by rfl) (show colA 1 [v00, v01, v02] ≠ 0 from hv), HQ.out]
        · have hr2 := rdC_of (QX.out.drewn.cells.2.2.2.1)
          have hcol := nextR_col (c := 1) (u := [u00, u01, u02]) (v := [v00, v01, v02]) rfl
          rw [HN.out] at hcol
          have hcol2 : u01 + -u01.tdiv v01 * v01 = u01.tmod v01 := hcol
          rw [hr2, HRD.out, hcol2, Int.natAbs_tmod]
          exact Nat.mod_lt _ (by omega)
      · go_wp2
        refine wgen ?_
        intro W2 hW
        have PX := Lib.hid (show G9 W2 w.heap.size 45 x0 x1 x2 u00 u01 u02 v00 v01 v02 by rw [hW]; exact (((M1.out.other (p := ⟨W0.heap.size, 0, none⟩) hneX (.int .i64 (u00 + -u01.tdiv v01 * v00))).other (p := ⟨W0.heap.size, 1, none⟩) hneX (.int .i64 (u01 + -u01.tdiv v01 * v01))).other (p := ⟨W0.heap.size, 2, none⟩) hneX (.int .i64 (u02 + -u01.tdiv v01 * v02))))
        have PR := Lib.hid (show G9 W2 (w.heap.size + 1) 45 0 0 0 0 0 0 0 0 0 by rw [hW]; exact (((M2.out.other (p := ⟨W0.heap.size, 0, none⟩) hneR (.int .i64 (u00 + -u01.tdiv v01 * v00))).other (p := ⟨W0.heap.size, 1, none⟩) hneR (.int .i64 (u01 + -u01.tdiv v01 * v01))).other (p := ⟨W0.heap.size, 2, none⟩) hneR (.int .i64 (u02 + -u01.tdiv v01 * v02))))
        have PB := Lib.hid (show Below w.heap.size w W2 by rw [hW]; exact (((BA.out.setCell (p := ⟨W0.heap.size, 0, none⟩) HBw.out.size (.int .i64 (u00 + -u01.tdiv v01 * v00))).setCell (p := ⟨W0.heap.size, 1, none⟩) HBw.out.size (.int .i64 (u01 + -u01.tdiv v01 * v01))).setCell (p := ⟨W0.heap.size, 2, none⟩) HBw.out.size (.int .i64 (u02 + -u01.tdiv v01 * v02))))
        have PC := (show G3 W2 W0.heap.size 43 (u00 + -u01.tdiv v01 * v00) (u01 + -u01.tdiv v01 * v01) (u02 + -u01.tdiv v01 * v02) by rw [hW]; exact ((C3.set0 (u00 + -u01.tdiv v01 * v00)).set1 (u01 + -u01.tdiv v01 * v01)).set2 (u02 + -u01.tdiv v01 * v02))
        have hcx : w.heap.size < W0.heap.size := HX.out.lt
        obtain ⟨d0, d1, d2⟩ := PC.cells
        have PCH := Lib.hid (show G3 W2.drew W0.heap.size 43 (u00 + -u01.tdiv v01 * v00) (u01 + -u01.tdiv v01 * v01) (u02 + -u01.tdiv v01 * v02) from PC)
        clear hW PC l0 l1 l2 l3 l4 l5 l6 l7 l8 hl C3 c0 c1 c2 g0 g1 g2
        obtain ⟨⟨l0, l1, l2⟩, ⟨l3, l4, l5⟩, l6, l7, l8⟩ := PX.out.cells
        have fa0 := PX.out.frozen 3
        have fb0 := PX.out.frozen 6
        have fa1 := PX.out.frozen 4
        have fb1 := PX.out.frozen 7
        have fa2 := PX.out.frozen 5
        have fb2 := PX.out.frozen 8
        refine T_begin (z := fun k => 7 < k) (S := fun w' => w'.cell? ⟨w.heap.size, 6, none⟩ = some (.int .i64 v00) ∧ w'.cell? ⟨w.heap.size, 7, none⟩ = some (.int .i64 v01) ∧ w'.cell? ⟨w.heap.size, 8, none⟩ = some (.int .i64 v02) ∧ w'.cell? ⟨W0.heap.size, 0, none⟩ = some (.int .i64 (u00 + -u01.tdiv v01 * v00)) ∧ w'.cell? ⟨W0.heap.size, 1, none⟩ = some (.int .i64 (u01 + -u01.tdiv v01 * v01)) ∧ w'.cell? ⟨W0.heap.size, 2, none⟩ = some (.int .i64 (u02 + -u01.tdiv v01 * v02))) (by kernel_rfl) ?_
        show wpAnyT _ _ _ _ _ _ 10 _ _ _
        have hS0 := Lib.hid (show (fun w' => w'.cell? ⟨w.heap.size, 6, none⟩ = some (.int .i64 v00) ∧ w'.cell? ⟨w.heap.size, 7, none⟩ = some (.int .i64 v01) ∧ w'.cell? ⟨w.heap.size, 8, none⟩ = some (.int .i64 v02) ∧ w'.cell? ⟨W0.heap.size, 0, none⟩ = some (.int .i64 (u00 + -u01.tdiv v01 * v00)) ∧ w'.cell? ⟨W0.heap.size, 1, none⟩ = some (.int .i64 (u01 + -u01.tdiv v01 * v01)) ∧ w'.cell? ⟨W0.heap.size, 2, none⟩ = some (.int .i64 (u02 + -u01.tdiv v01 * v02))) W2.drew from ⟨l6, l7, l8, d0, d1, d2⟩)
        refine T_take (i := 0) (v := .int .i64 1) rfl (by kernel_rfl) (by kernel_rfl) (by kernel_rfl) (by kernel_rfl) (fun _ _ _ h => h) hS0.out rfl (fun w' hS' => by (try dsimp only at hS'); go_simp) ?_
        try simp only [Act.put, List.setIfInBounds_toArray]
        refine T_take (i := 1) (v := .int .i64 2) rfl (by kernel_rfl) (by kernel_rfl) (by kernel_rfl) (by kernel_rfl) (fun _ _ _ h => h) hS0.out rfl (fun w' hS' => by (try dsimp only at hS'); go_simp) ?_
        try simp only [Act.put]
        refine T_take (i := 2) (v := .int .i64 2) rfl (by kernel_rfl) (by kernel_rfl) (by kernel_rfl) (by kernel_rfl) (fun _ _ _ h => h) hS0.out rfl (fun w' hS' => by (try dsimp only at hS'); go_simp) ?_
        try simp only [Act.put]
        refine T_take (i := 3) (v := .pointer (some ⟨w.heap.size, 6, none⟩)) rfl (by kernel_rfl) (by kernel_rfl) (by kernel_rfl) (by kernel_rfl) (fun _ _ _ h => h) hS0.out rfl (fun w' hS' => by (try dsimp only at hS'); go_simp) ?_
        try simp only [Act.put]
        refine T_take (i := 4) (v := .agg #[.int .i64 v00, .int .i64 v01, .int .i64 v02]) rfl (by kernel_rfl) (by kernel_rfl) (by kernel_rfl) (by kernel_rfl) (fun _ _ _ h => h) hS0.out rfl (fun w' hS' => by (try dsimp only at hS'); go_simp) ?_
        try simp only [Act.put]
        refine T_take (i := 5) (v := .agg #[.int .i64 (u00 + -u01.tdiv v01 * v00), .int .i64 (u01 + -u01.tdiv v01 * v01), .int .i64 (u02 + -u01.tdiv v01 * v02)]) rfl (by kernel_rfl) (by kernel_rfl) (by kernel_rfl) (by kernel_rfl) (fun _ _ _ h => h) hS0.out rfl (fun w' hS' => by (try dsimp only at hS'); go_simp) ?_
        try simp only [Act.put]
        refine T_take (i := 6) (v := .pointer (some ⟨w.heap.size, 3, none⟩)) rfl (by kernel_rfl) (by kernel_rfl) (by kernel_rfl) (by kernel_rfl) (fun _ _ _ h => h) hS0.out rfl (fun w' hS' => by (try dsimp only at hS'); go_simp) ?_
        try simp only [Act.put]
        refine T_step (i := 7) rfl (by kernel_rfl) rfl rfl ?_
        intro K hK
        go_simp
        have PXD := (show G9 W2.drew w.heap.size 45 x0 x1 x2 u00 u01 u02 v00 v01 v02 from PX.out).set1 v00 v01 v02
        have PCD := (show G3 (((W2.drew.setCell ⟨w.heap.size, 3, none⟩ (.int .i64 v00)).setCell ⟨w.heap.size, 4, none⟩ (.int .i64 v01)).setCell ⟨w.heap.size, 5, none⟩ (.int .i64 v02)) W0.heap.size 43 (u00 + -u01.tdiv v01 * v00) (u01 + -u01.tdiv v01 * v01) (u02 + -u01.tdiv v01 * v02) from (((PCH.out.other (p := ⟨w.heap.size, 3, none⟩) (Nat.ne_of_lt hcx) (.int .i64 v00)).other (p := ⟨w.heap.size, 4, none⟩) (Nat.ne_of_lt hcx) (.int .i64 v01)).other (p := ⟨w.heap.size, 5, none⟩) (Nat.ne_of_lt hcx) (.int .i64 v02)))
        refine hK.out _ _ ⟨PXD.cells.2.2.1, PXD.cells.2.2.2.1, PXD.cells.2.2.2.2, PCD.cells.1, PCD.cells.2.1, PCD.cells.2.2⟩ ?_
        clear hK K PXD PCD
        try simp only [Act.put, List.setIfInBounds_toArray, List.set_cons_zero, List.set_cons_succ]
        refine T_anytake (i := 8) (v := .pointer (some ⟨w.heap.size, 6, none⟩)) rfl (by kernel_rfl) (by kernel_rfl) (by kernel_rfl) rfl (fun _ _ _ h => h) rfl (fun w' => by go_simp) ?_
        try simp only [Act.put, List.setIfInBounds_toArray]
        refine T_last (i := 9) rfl (by kernel_rfl) (by kernel_rfl) rfl rfl ?_
        go_simp
        go_wp2
        have QX := Lib.hid ((PX.out.set1 v00 v01 v02).set2 (u00 + -u01.tdiv v01 * v00) (u01 + -u01.tdiv v01 * v01) (u02 + -u01.tdiv v01 * v02))
        have QR := Lib.hid (((((((PR.out.other (p := ⟨w.heap.size, 3, none⟩) (Nat.ne_of_lt (Nat.lt_succ_self _)) (.int .i64 (v00))).other (p := ⟨w.heap.size, 4, none⟩) (Nat.ne_of_lt (Nat.lt_succ_self _)) (.int .i64 (v01))).other (p := ⟨w.heap.size, 5, none⟩) (Nat.ne_of_lt (Nat.lt_succ_self _)) (.int .i64 (v02))).other (p := ⟨w.heap.size, 6, none⟩) (Nat.ne_of_lt (Nat.lt_succ_self _)) (.int .i64 (u00 + -u01.tdiv v01 * v00))).other (p := ⟨w.heap.size, 7, none⟩) (Nat.ne_of_lt (Nat.lt_succ_self _)) (.int .i64 (u01 + -u01.tdiv v01 * v01))).other (p := ⟨w.heap.size, 8, none⟩) (Nat.ne_of_lt (Nat.lt_succ_self _)) (.int .i64 (u02 + -u01.tdiv v01 * v02))))
        have QB := Lib.hid (((((((PB.out.setCell (p := ⟨w.heap.size, 3, none⟩) (Nat.le_refl _) (.int .i64 (v00))).setCell (p := ⟨w.heap.size, 4, none⟩) (Nat.le_refl _) (.int .i64 (v01))).setCell (p := ⟨w.heap.size, 5, none⟩) (Nat.le_refl _) (.int .i64 (v02))).setCell (p := ⟨w.heap.size, 6, none⟩) (Nat.le_refl _) (.int .i64 (u00 + -u01.tdiv v01 * v00))).setCell (p := ⟨w.heap.size, 7, none⟩) (Nat.le_refl _) (.int .i64 (u01 + -u01.tdiv v01 * v01))).setCell (p := ⟨w.heap.size, 8, none⟩) (Nat.le_refl _) (.int .i64 (u02 + -u01.tdiv v01 * v02))))
        have hst := HST.out
        rw [HN.out] at hst
        refine ⟨⟨v00, v01, v02, u00 + -u01.tdiv v01 * v00, u01 + -u01.tdiv v01 * v01, u02 + -u01.tdiv v01 * v02, hst, ?_, ⟨QX.out.drewn, QR.out.drewn⟩, (QB.out).drew⟩, ?_⟩
        · rw [← HN.out, ← eucl_step (by rfl) (show colA 1 [v00, v01, v02] ≠ 0 from hv), HQ.out]
        · have hr2 := rdC_of (QX.out.drewn.cells.2.2.2.1)
          have hcol := nextR_col (c := 1) (u := [u00, u01, u02]) (v := [v00, v01, v02]) rfl
          rw [HN.out] at hcol
          have hcol2 : u01 + -u01.tdiv v01 * v01 = u01.tmod v01 := hcol
          rw [hr2, HRD.out, hcol2, Int.natAbs_tmod]
          exact Nat.mod_lt _ (by omega)

set_option maxRecDepth 100000 in
set_option maxHeartbeats 8000000 in
theorem i_clear2 (x0 x1 x2 x3 x4 x5 x6 x7 x8 : Int) (w : World) (hE : ∀ j, 2 + 1 + j < 3 → ∃ A : Int, Eu 2 3 80400000000 A ((pairsH 2 [[x0, x1, x2], [x3, x4, x5], [x6, x7, x8]] j).getD 2 []) ((pairsH 2 [[x0, x1, x2], [x3, x4, x5], [x6, x7, x8]] j).getD (2 + 1 + j) [])) (hB : ∀ u, (pairsH 2 [[x0, x1, x2], [x3, x4, x5], [x6, x7, x8]] (2 - 2))[2]? = some u → Bd u 400000000000000000) :
    Calls Tryz.prog 60 #[.agg #[.int .i64 x0, .int .i64 x1, .int .i64 x2, .int .i64 x3, .int .i64 x4, .int .i64 x5, .int .i64 x6, .int .i64 x7, .int .i64 x8], .int .i64 2] w (ClearP 2 [[x0, x1, x2], [x3, x4, x5], [x6, x7, x8]] w) := by
  have HE := Lib.hid hE
  have HB := Lib.hid hB
  clear hE hB
  have HZ0 := Lib.hid (show pairsH 2 [[x0, x1, x2], [x3, x4, x5], [x6, x7, x8]] 0 = [[x0, x1, x2], [x3, x4, x5], [x6, x7, x8]] from rfl)
  go_enter Tryz.func60, Tryz.ntmps60
  go_wp2
  refine wp_loop_rounds 1 ?_
  rw [rounds_succ]
  have HX := Lib.hid ((G9.new w 45 x0 x1 x2 x3 x4 x5 x6 x7 x8).below ((Below.refl _ _).alloc (Nat.le_refl _) (.cells #[.int .i64 0, .int .i64 0, .int .i64 0, .int .i64 0, .int .i64 0, .int .i64 0, .int .i64 0, .int .i64 0, .int .i64 0] 45)))
  have HR := Lib.hid (G9.newAt (w := w.alloc (.cells #[.int .i64 x0, .int .i64 x1, .int .i64 x2, .int .i64 x3, .int .i64 x4, .int .i64 x5, .int .i64 x6, .int .i64 x7, .int .i64 x8] 45)) (B := w.heap.size + 1) (by simp) 45 0 0 0 0 0 0 0 0 0)
  have HBw := Lib.hid (((Below.refl w.heap.size w).alloc (Nat.le_refl _) (.cells #[.int .i64 x0, .int .i64 x1, .int .i64 x2, .int .i64 x3, .int .i64 x4, .int .i64 x5, .int .i64 x6, .int .i64 x7, .int .i64 x8] 45)).alloc (by simp) (.cells #[.int .i64 0, .int .i64 0, .int .i64 0, .int .i64 0, .int .i64 0, .int .i64 0, .int .i64 0, .int .i64 0, .int .i64 0] 45))
  have hb3 := bd_three (HB.out [x6, x7, x8] (by rw [HZ0.out]; rfl))
  obtain ⟨⟨h1, h2⟩, ⟨h3, h4⟩, h5, h6⟩ := hb3
  by_cases hneg : x8 < 0
  · have hn2 : negH 2 [[x0, x1, x2], [x3, x4, x5], [x6, x7, x8]] = [[x0, x1, x2], [x3, x4, x5], [-1 * x6, -1 * x7, -1 * x8]] := by
      unfold negH
      rw [show ([[x0, x1, x2], [x3, x4, x5], [x6, x7, x8]] : List (List Int)).getD 2 [] = [x6, x7, x8] from rfl, if_pos (show colA 2 [x6, x7, x8] < 0 from hneg)]
      simp [scaleL, Int.mul_comm]
    have HN2 := Lib.hid hn2
    clear hn2
    obtain ⟨⟨l0, l1, l2⟩, ⟨l3, l4, l5⟩, l6, l7, l8⟩ := HX.out.cells
    go_wp2_with fail
    refine (i_addz (-1) x6 x7 x8 _ (by omega) (by omega) (by omega)).mono ?_
    rintro e V ⟨rfl, hb⟩
    have KX := Lib.hid (HX.out.below hb)
    have KR := Lib.hid (HR.out.below hb)
    have KB := Lib.hid (HBw.out.trans (hb.mono HBw.out.size))
    clear hb l0 l1 l2 l3 l4 l5 l6 l7 l8
    obtain ⟨⟨l0, l1, l2⟩, ⟨l3, l4, l5⟩, l6, l7, l8⟩ := KX.out.cells
    have fx0 := KX.out.frozen 6
    have fx1 := KX.out.frozen 7
    have fx2 := KX.out.frozen 8
    obtain ⟨⟨j0, j1, j2⟩, ⟨j3, j4, j5⟩, j6, j7, j8⟩ := KR.out.cells
    have f0 := KR.out.frozen 0
    have f1 := KR.out.frozen 1
    have f2 := KR.out.frozen 2
    have f3 := KR.out.frozen 3
    have f4 := KR.out.frozen 4
    have f5 := KR.out.frozen 5
    have f6 := KR.out.frozen 6
    have f7 := KR.out.frozen 7
    have f8 := KR.out.frozen 8
    go_wp2
    refine bodyPost_ret (v := .agg #[.int .i64 x0, .int .i64 x1, .int .i64 x2, .int .i64 x3, .int .i64 x4, .int .i64 x5, .int .i64 (-1 * x6), .int .i64 (-1 * x7), .int .i64 (-1 * x8)]) ?_ rfl ⟨_, _, _, _, _, _, _, _, _, ?_, rfl, ((((((((((((KB.out.setCell (p := ⟨w.heap.size, 6, none⟩) (Nat.le_refl _) _).setCell (p := ⟨w.heap.size, 7, none⟩) (Nat.le_refl _) _).setCell (p := ⟨w.heap.size, 8, none⟩) (Nat.le_refl _) _).setCell (p := ⟨w.heap.size + 1, 0, none⟩) (Nat.le_succ _) _).setCell (p := ⟨w.heap.size + 1, 1, none⟩) (Nat.le_succ _) _).setCell (p := ⟨w.heap.size + 1, 2, none⟩) (Nat.le_succ _) _).setCell (p := ⟨w.heap.size + 1, 3, none⟩) (Nat.le_succ _) _).setCell (p := ⟨w.heap.size + 1, 4, none⟩) (Nat.le_succ _) _).setCell (p := ⟨w.heap.size + 1, 5, none⟩) (Nat.le_succ _) _).setCell (p := ⟨w.heap.size + 1, 6, none⟩) (Nat.le_succ _) _).setCell (p := ⟨w.heap.size + 1, 7, none⟩) (Nat.le_succ _) _).setCell (p := ⟨w.heap.size + 1, 8, none⟩) (Nat.le_succ _) _)⟩
    · simp [results, Tryz.results60, go_sem, j0, j1, j2, j3, j4, j5, j6, j7, j8]
    · show negH 2 (pairsH 2 [[x0, x1, x2], [x3, x4, x5], [x6, x7, x8]] 0) = _
      rw [HZ0.out, HN2.out]
  · have hn2 : negH 2 [[x0, x1, x2], [x3, x4, x5], [x6, x7, x8]] = [[x0, x1, x2], [x3, x4, x5], [x6, x7, x8]] := by
      unfold negH
      rw [show ([[x0, x1, x2], [x3, x4, x5], [x6, x7, x8]] : List (List Int)).getD 2 [] = [x6, x7, x8] from rfl, if_neg (show ¬ colA 2 [x6, x7, x8] < 0 from hneg)]
    have hge : 0 ≤ x8 := by omega
    have HN2 := Lib.hid hn2
    clear hn2
    obtain ⟨⟨l0, l1, l2⟩, ⟨l3, l4, l5⟩, l6, l7, l8⟩ := HX.out.cells
    obtain ⟨⟨j0, j1, j2⟩, ⟨j3, j4, j5⟩, j6, j7, j8⟩ := HR.out.cells
    have f0 := HR.out.frozen 0
    have f1 := HR.out.frozen 1
    have f2 := HR.out.frozen 2
    have f3 := HR.out.frozen 3
    have f4 := HR.out.frozen 4
    have f5 := HR.out.frozen 5
    have f6 := HR.out.frozen 6
    have f7 := HR.out.frozen 7
    have f8 := HR.out.frozen 8
    go_wp2
    refine bodyPost_ret (v := .agg #[.int .i64 x0, .int .i64 x1, .int .i64 x2, .int .i64 x3, .int .i64 x4, .int .i64 x5, .int .i64 x6, .int .i64 x7, .int .i64 x8]) ?_ rfl ⟨_, _, _, _, _, _, _, _, _, ?_, rfl, ((Below.refl _ _).alloc (Nat.le_refl _) _).alloc (by simp) _⟩
    · simp [results, Tryz.results60, go_sem]
    · show negH 2 (pairsH 2 [[x0, x1, x2], [x3, x4, x5], [x6, x7, x8]] 0) = _
      rw [HZ0.out, HN2.out]
end Go.Proofs.YtjijgagdaolkcaaGreat
/- The program's reduceAbove. -/
namespace Go.Proofs.YtjijgagdaolkcaaGreat
open Go.RowKit Go.Lib

/-- What reduceAbove leaves. -/
def RedP (k : Nat) (z : List (List Int)) (w : World) (e : Ending) (w' : World) : Prop :=
  ∃ y0 y1 y2 y3 y4 y5 y6 y7 y8 : Int, redsH k z k = [[y0, y1, y2], [y3, y4, y5], [y6, y7, y8]] ∧ e = .returned (.agg #[.int .i64 y0, .int .i64 y1, .int .i64 y2, .int .i64 y3, .int .i64 y4, .int .i64 y5, .int .i64 y6, .int .i64 y7, .int .i64 y8]) ∧ Below w.heap.size w w'
theorem red_three (a0 a1 a2 p0 p1 p2 q : Int) : lessL [a0, a1, a2] (scaleL [p0, p1, p2] q) = [a0 + -q * p0, a1 + -q * p1, a2 + -q * p2] := by
  simp only [lessL, scaleL, List.map_cons, List.map_nil, List.zipWith_cons_cons, List.zipWith_nil_left, List.cons.injEq, and_true]
  refine ⟨by grind, by grind, by grind⟩
theorem bd_three' {x y z K : Int} (h : Bd [x, y, z] K) : (-K ≤ x ∧ x ≤ K) ∧ (-K ≤ y ∧ y ≤ K) ∧ (-K ≤ z ∧ z ≤ K) := ⟨h 0 (by simp), h 1 (by simp), h 2 (by simp)⟩

set_option maxRecDepth 100000 in
set_option maxHeartbeats 8000000 in
theorem i_red0 (x0 x1 x2 x3 x4 x5 x6 x7 x8 : Int) (w : World) (hR : ∀ r, r < 0 → RedOk 3 0 r (redsH 0 [[x0, x1, x2], [x3, x4, x5], [x6, x7, x8]] r)) :
    Calls Tryz.prog 59 #[.agg #[.int .i64 x0, .int .i64 x1, .int .i64 x2, .int .i64 x3, .int .i64 x4, .int .i64 x5, .int .i64 x6, .int .i64 x7, .int .i64 x8], .int .i64 0] w (RedP 0 [[x0, x1, x2], [x3, x4, x5], [x6, x7, x8]] w) := by
  have HRO := Lib.hid hR
  clear hR
  have HZ0 := Lib.hid (show redsH 0 [[x0, x1, x2], [x3, x4, x5], [x6, x7, x8]] 0 = [[x0, x1, x2], [x3, x4, x5], [x6, x7, x8]] from rfl)
  go_enter Tryz.func59, Tryz.ntmps59
  go_wp2
  refine wp_loop_rounds 1 ?_
  rw [rounds_succ]
  go_wp2
  refine bodyPost_ret (v := .agg #[.int .i64 x0, .int .i64 x1, .int .i64 x2, .int .i64 x3, .int .i64 x4, .int .i64 x5, .int .i64 x6, .int .i64 x7, .int .i64 x8]) ?_ rfl ⟨_, _, _, _, _, _, _, _, _, HZ0.out, rfl, ((Below.refl _ _).alloc (Nat.le_refl _) _).alloc (by simp) _⟩
  simp [results, Tryz.results59, go_sem]

set_option maxRecDepth 100000 in
set_option maxHeartbeats 8000000 in
theorem i_red1 (x0 x1 x2 x3 x4 x5 x6 x7 x8 : Int) (w : World) (hR : ∀ r, r < 1 → RedOk 3 1 r (redsH 1 [[x0, x1, x2], [x3, x4, x5], [x6, x7, x8]] r)) :
    Calls Tryz.prog 59 #[.agg #[.int .i64 x0, .int .i64 x1, .int .i64 x2, .int .i64 x3, .int .i64 x4, .int .i64 x5, .int .i64 x6, .int .i64 x7, .int .i64 x8], .int .i64 1] w (RedP 1 [[x0, x1, x2], [x3, x4, x5], [x6, x7, x8]] w) := by
  have HRO := Lib.hid hR
  clear hR
  have HZ0 := Lib.hid (show redsH 1 [[x0, x1, x2], [x3, x4, x5], [x6, x7, x8]] 0 = [[x0, x1, x2], [x3, x4, x5], [x6, x7, x8]] from rfl)
  go_enter Tryz.func59, Tryz.ntmps59
  go_wp2
  refine wp_loop_rounds 2 ?_
  rw [rounds_succ]
  go_wp2
  obtain ⟨a, p, ha, hp, _, _, hpos, hba, hbp, hbs⟩ := HRO.out 0 (by omega)
  rw [HZ0.out] at ha hp
  obtain rfl : [x0, x1, x2] = a := Option.some.inj ha
  obtain rfl : [x3, x4, x5] = p := Option.some.inj hp
  have HB := Lib.hid (And.intro (bd_three' hba) (And.intro (bd_three' hbp) (bd_three' (show Bd [x3 * (x1 / x4), x4 * (x1 / x4), x5 * (x1 / x4)] 400000000000000000 from hbs))))
  have HPO := Lib.hid (show 0 < x4 from hpos)
  clear ha hp hpos hba hbp hbs
  refine wgen ?_
  intro W0 hW
  have HX := Lib.hid (show G9 W0 w.heap.size 45 x0 x1 x2 x3 x4 x5 x6 x7 x8 by rw [hW]; first | exact (G9.new w 45 x0 x1 x2 x3 x4 x5 x6 x7 x8).below ((Below.refl _ _).alloc (Nat.le_refl _) _) | exact (G9.new w 45 x0 x1 x2 x3 x4 x5 x6 x7 x8).below ((Below.refl _ _).alloc (Nat.le_refl _) _))
  have HR := Lib.hid (show G9 W0 (w.heap.size + 1) 45 0 0 0 0 0 0 0 0 0 by rw [hW]; first | exact G9.newAt (by simp) 45 0 0 0 0 0 0 0 0 0 | exact G9.newAt (by simp) 45 0 0 0 0 0 0 0 0 0)
  have HW := Lib.hid (show Below w.heap.size w W0 by rw [hW]; first | exact ((Below.refl w.heap.size w).alloc (Nat.le_refl _) _).alloc (by simp) _ | exact ((Below.refl w.heap.size w).alloc (Nat.le_refl _) _).alloc (by simp) _)
  clear hW
  have CT := Lib.hid (fun W => i_redat1 x0 x1 x2 x3 x4 x5 HPO.out (by have := HB.out.2.1.2.1; omega) (by have h1 := HB.out.1.1; have h2 := HB.out.1.2.1; have h3 := HB.out.1.2.2; omega) (by have h1 := HB.out.2.2.1; have h2 := HB.out.2.2.2.1; have h3 := HB.out.2.2.2.2; simp only [Int.neg_mul]; rw [Int.mul_comm (x1 / x4) x3, Int.mul_comm (x1 / x4) x4, Int.mul_comm (x1 / x4) x5]; omega) W)
  refine T_begin (z := fun k => 8 < k) (S := fun w' => w'.cell? ⟨w.heap.size, 0, none⟩ = some (.int .i64 (x0)) ∧ w'.cell? ⟨w.heap.size, 1, none⟩ = some (.int .i64 (x1)) ∧ w'.cell? ⟨w.heap.size, 2, none⟩ = some (.int .i64 (x2)) ∧ w'.cell? ⟨w.heap.size, 3, none⟩ = some (.int .i64 (x3)) ∧ w'.cell? ⟨w.heap.size, 4, none⟩ = some (.int .i64 (x4)) ∧ w'.cell? ⟨w.heap.size, 5, none⟩ = some (.int .i64 (x5)) ∧ w'.cell? ⟨w.heap.size, 6, none⟩ = some (.int .i64 (x6)) ∧ w'.cell? ⟨w.heap.size, 7, none⟩ = some (.int .i64 (x7)) ∧ w'.cell? ⟨w.heap.size, 8, none⟩ = some (.int .i64 (x8))) (by kernel_rfl) ?_
  show wpAnyT _ _ _ _ _ _ 11 _ _ _
  have hS0 := Lib.hid (show (fun w' => w'.cell? ⟨w.heap.size, 0, none⟩ = some (.int .i64 (x0)) ∧ w'.cell? ⟨w.heap.size, 1, none⟩ = some (.int .i64 (x1)) ∧ w'.cell? ⟨w.heap.size, 2, none⟩ = some (.int .i64 (x2)) ∧ w'.cell? ⟨w.heap.size, 3, none⟩ = some (.int .i64 (x3)) ∧ w'.cell? ⟨w.heap.size, 4, none⟩ = some (.int .i64 (x4)) ∧ w'.cell? ⟨w.heap.size, 5, none⟩ = some (.int .i64 (x5)) ∧ w'.cell? ⟨w.heap.size, 6, none⟩ = some (.int .i64 (x6)) ∧ w'.cell? ⟨w.heap.size, 7, none⟩ = some (.int .i64 (x7)) ∧ w'.cell? ⟨w.heap.size, 8, none⟩ = some (.int .i64 (x8))) W0.drew from HX.out.cells9D)
  refine T_take (i := 0) (v := .int .i64 0) rfl (by kernel_rfl) (by kernel_rfl) (by kernel_rfl) (by kernel_rfl) (fun _ _ _ h => h) hS0.out rfl (fun w' hS' => by (try dsimp only at hS'); go_simp) ?_
  try simp only [Act.put, List.setIfInBounds_toArray]
  refine T_take (i := 1) (v := .int .i64 0) rfl (by kernel_rfl) (by kernel_rfl) (by kernel_rfl) (by kernel_rfl) (fun _ _ _ h => h) hS0.out rfl (fun w' hS' => by (try dsimp only at hS'); go_simp) ?_
  try simp only [Act.put]
  refine T_take (i := 2) (v := .pointer (some ⟨w.heap.size, 0, none⟩)) rfl (by kernel_rfl) (by kernel_rfl) (by kernel_rfl) (by kernel_rfl) (fun _ _ _ h => h) hS0.out rfl (fun w' hS' => by (try dsimp only at hS'); go_simp) ?_
  try simp only [Act.put]
  refine T_take (i := 3) (v := .agg #[.int .i64 x0, .int .i64 x1, .int .i64 x2]) rfl (by kernel_rfl) (by kernel_rfl) (by kernel_rfl) (by kernel_rfl) (fun _ _ _ h => h) hS0.out rfl (fun w' hS' => by (try dsimp only at hS'); go_simp) ?_
  try simp only [Act.put]
  refine T_take (i := 4) (v := .int .i64 1) rfl (by kernel_rfl) (by kernel_rfl) (by kernel_rfl) (by kernel_rfl) (fun _ _ _ h => h) hS0.out rfl (fun w' hS' => by (try dsimp only at hS'); go_simp) ?_
  try simp only [Act.put]
  refine T_take (i := 5) (v := .int .i64 1) rfl (by kernel_rfl) (by kernel_rfl) (by kernel_rfl) (by kernel_rfl) (fun _ _ _ h => h) hS0.out rfl (fun w' hS' => by (try dsimp only at hS'); go_simp) ?_
  try simp only [Act.put]
  refine T_take (i := 6) (v := .pointer (some ⟨w.heap.size, 3, none⟩)) rfl (by kernel_rfl) (by kernel_rfl) (by kernel_rfl) (by kernel_rfl) (fun _ _ _ h => h) hS0.out rfl (fun w' hS' => by (try dsimp only at hS'); go_simp) ?_
  try simp only [Act.put]
  refine T_take (i := 7) (v := .agg #[.int .i64 x3, .int .i64 x4, .int .i64 x5]) rfl (by kernel_rfl) (by kernel_rfl) (by kernel_rfl) (by kernel_rfl) (fun _ _ _ h => h) hS0.out rfl (fun w' hS' => by (try dsimp only at hS'); go_simp) ?_
  try simp only [Act.put]
  refine T_step (i := 8) rfl (by kernel_rfl) rfl rfl ?_
  intro K hK
  go_simp
  refine (CT.out _).mono ?_
  rintro e V0 ⟨rfl, hb⟩
  have KX := Lib.hid (HX.out.belowE hb)
  have KR := Lib.hid (HR.out.belowE hb)
  have KB := Lib.hid ((HW.out.drew).trans (hb.mono HW.out.size))
  clear hb
  refine hK.out _ _ KX.out.cells9 ?_
  clear hK K
  try simp only [Act.put, List.setIfInBounds_toArray, List.set_cons_zero, List.set_cons_succ]
  refine T_anytake (i := 9) (v := .pointer (some ⟨w.heap.size, 0, none⟩)) rfl (by kernel_rfl) (by kernel_rfl) (by kernel_rfl) rfl (fun _ _ _ h => h) rfl (fun w' => by go_simp) ?_
  try simp only [Act.put, List.setIfInBounds_toArray]
  obtain ⟨c0, c1, c2⟩ := KX.out.cells.1
  have f0 := KX.out.frozen 0
  have f1 := KX.out.frozen 1
  have f2 := KX.out.frozen 2
  refine T_last (i := 10) rfl (by kernel_rfl) (by kernel_rfl) rfl rfl ?_
  go_simp
  have QX := Lib.hid (KX.out.set0 (x0 + -(x1 / x4) * x3) (x1 + -(x1 / x4) * x4) (x2 + -(x1 / x4) * x5))
  have QR := Lib.hid ((((KR.out.other (p := ⟨w.heap.size, 0, none⟩) (Nat.ne_of_lt (Nat.lt_succ_self _)) (.int .i64 (x0 + -(x1 / x4) * x3))).other (p := ⟨w.heap.size, 1, none⟩) (Nat.ne_of_lt (Nat.lt_succ_self _)) (.int .i64 (x1 + -(x1 / x4) * x4))).other (p := ⟨w.heap.size, 2, none⟩) (Nat.ne_of_lt (Nat.lt_succ_self _)) (.int .i64 (x2 + -(x1 / x4) * x5))))
  have QB := Lib.hid ((((KB.out.setCell (p := ⟨w.heap.size, 0, none⟩) (Nat.le_refl _) (.int .i64 (x0 + -(x1 / x4) * x3))).setCell (p := ⟨w.heap.size, 1, none⟩) (Nat.le_refl _) (.int .i64 (x1 + -(x1 / x4) * x4))).setCell (p := ⟨w.heap.size, 2, none⟩) (Nat.le_refl _) (.int .i64 (x2 + -(x1 / x4) * x5))))
  have HZ1 := Lib.hid (show redsH 1 [[x0, x1, x2], [x3, x4, x5], [x6, x7, x8]] 1 = [[x0 + -(x1 / x4) * x3, x1 + -(x1 / x4) * x4, x2 + -(x1 / x4) * x5], [x3, x4, x5], [x6, x7, x8]] by
    show redH 1 0 (redsH 1 [[x0, x1, x2], [x3, x4, x5], [x6, x7, x8]] 0) = _
    rw [HZ0.out]
    show ([[x0, x1, x2], [x3, x4, x5], [x6, x7, x8]] : List (List Int)).set 0 (lessL [x0, x1, x2] (scaleL [x3, x4, x5] (x1 / x4))) = _
    rw [red_three]
    rfl)
  clear c0 c1 c2 f0 f1 f2 HX HR HW CT HB HPO hS0
  go_wp2
  rw [rounds_succ]
  obtain ⟨⟨l0, l1, l2⟩, ⟨l3, l4, l5⟩, l6, l7, l8⟩ := KX.out.cells
  obtain ⟨⟨j0, j1, j2⟩, ⟨j3, j4, j5⟩, j6, j7, j8⟩ := KR.out.cells
  have f0 := KR.out.frozen 0
  have f1 := KR.out.frozen 1
  have f2 := KR.out.frozen 2
  have f3 := KR.out.frozen 3
  have f4 := KR.out.frozen 4
  have f5 := KR.out.frozen 5
  have f6 := KR.out.frozen 6
  have f7 := KR.out.frozen 7
  have f8 := KR.out.frozen 8
  go_wp2
  refine bodyPost_ret (v := .agg #[.int .i64 (x0 + -(x1 / x4) * x3), .int .i64 (x1 + -(x1 / x4) * x4), .int .i64 (x2 + -(x1 / x4) * x5), .int .i64 x3, .int .i64 x4, .int .i64 x5, .int .i64 x6, .int .i64 x7, .int .i64 x8]) ?_ rfl ⟨_, _, _, _, _, _, _, _, _, HZ1.out, rfl, ((((((((((((KB.out.setCell (p := ⟨w.heap.size, 0, none⟩) (Nat.le_refl _) _).setCell (p := ⟨w.heap.size, 1, none⟩) (Nat.le_refl _) _).setCell (p := ⟨w.heap.size, 2, none⟩) (Nat.le_refl _) _).setCell (p := ⟨w.heap.size + 1, 0, none⟩) (Nat.le_succ _) _).setCell (p := ⟨w.heap.size + 1, 1, none⟩) (Nat.le_succ _) _).setCell (p := ⟨w.heap.size + 1, 2, none⟩) (Nat.le_succ _) _).setCell (p := ⟨w.heap.size + 1, 3, none⟩) (Nat.le_succ _) _).setCell (p := ⟨w.heap.size + 1, 4, none⟩) (Nat.le_succ _) _).setCell (p := ⟨w.heap.size + 1, 5, none⟩) (Nat.le_succ _) _).setCell (p := ⟨w.heap.size + 1, 6, none⟩) (Nat.le_succ _) _).setCell (p := ⟨w.heap.size + 1, 7, none⟩) (Nat.le_succ _) _).setCell (p := ⟨w.heap.size + 1, 8, none⟩) (Nat.le_succ _) _)⟩
  simp [results, Tryz.results59, go_sem, j0, j1, j2, j3, j4, j5, j6, j7, j8]

set_option maxRecDepth 100000 in
set_option maxHeartbeats 8000000 in
theorem i_red2 (x0 x1 x2 x3 x4 x5 x6 x7 x8 : Int) (w : World) (hR : ∀ r, r < 2 → RedOk 3 2 r (redsH 2 [[x0, x1, x2], [x3, x4, x5], [x6, x7, x8]] r)) :
    Calls Tryz.prog 59 #[.agg #[.int .i64 x0, .int .i64 x1, .int .i64 x2, .int .i64 x3, .int .i64 x4, .int .i64 x5, .int .i64 x6, .int .i64 x7, .int .i64 x8], .int .i64 2] w (RedP 2 [[x0, x1, x2], [x3, x4, x5], [x6, x7, x8]] w) := by
  have HRO := Lib.hid hR
  clear hR
  have HZ0 := Lib.hid (show redsH 2 [[x0, x1, x2], [x3, x4, x5], [x6, x7, x8]] 0 = [[x0, x1, x2], [x3, x4, x5], [x6, x7, x8]] from rfl)
  go_enter Tryz.func59, Tryz.ntmps59
  go_wp2
  refine wp_loop_rounds 3 ?_
  rw [rounds_succ]
  go_wp2
  obtain ⟨a, p, ha, hp, _, _, hpos, hba, hbp, hbs⟩ := HRO.out 0 (by omega)
  rw [HZ0.out] at ha hp
  obtain rfl : [x0, x1, x2] = a := Option.some.inj ha
  obtain rfl : [x6, x7, x8] = p := Option.some.inj hp
  have HB := Lib.hid (And.intro (bd_three' hba) (And.intro (bd_three' hbp) (bd_three' (show Bd [x6 * (x2 / x8), x7 * (x2 / x8), x8 * (x2 / x8)] 400000000000000000 from hbs))))
  have HPO := Lib.hid (show 0 < x8 from hpos)
  clear ha hp hpos hba hbp hbs
  refine wgen ?_
  intro W0 hW
  have HX := Lib.hid (show G9 W0 w.heap.size 45 x0 x1 x2 x3 x4 x5 x6 x7 x8 by rw [hW]; first | exact (G9.new w 45 x0 x1 x2 x3 x4 x5 x6 x7 x8).below ((Below.refl _ _).alloc (Nat.le_refl _) _) | exact (G9.new w 45 x0 x1 x2 x3 x4 x5 x6 x7 x8).below ((Below.refl _ _).alloc (Nat.le_refl _) _))
  have HR := Lib.hid (show G9 W0 (w.heap.size + 1) 45 0 0 0 0 0 0 0 0 0 by rw [hW]; first | exact G9.newAt (by simp) 45 0 0 0 0 0 0 0 0 0 | exact G9.newAt (by simp) 45 0 0 0 0 0 0 0 0 0)
  have HW := Lib.hid (show Below w.heap.size w W0 by rw [hW]; first | exact ((Below.refl w.heap.size w).alloc (Nat.le_refl _) _).alloc (by simp) _ | exact ((Below.refl w.heap.size w).alloc (Nat.le_refl _) _).alloc (by simp) _)
  clear hW
  have CT := Lib.hid (fun W => i_redat2 x0 x1 x2 x6 x7 x8 HPO.out (by have := HB.out.2.1.2.2; omega) (by have h1 := HB.out.1.1; have h2 := HB.out.1.2.1; have h3 := HB.out.1.2.2; omega) (by have h1 := HB.out.2.2.1; have h2 := HB.out.2.2.2.1; have h3 := HB.out.2.2.2.2; simp only [Int.neg_mul]; rw [Int.mul_comm (x2 / x8) x6, Int.mul_comm (x2 / x8) x7, Int.mul_comm (x2 / x8) x8]; omega) W)
  refine T_begin (z := fun k => 8 < k) (S := fun w' => w'.cell? ⟨w.heap.size, 0, none⟩ = some (.int .i64 (x0)) ∧ w'.cell? ⟨w.heap.size, 1, none⟩ = some (.int .i64 (x1)) ∧ w'.cell? ⟨w.heap.size, 2, none⟩ = some (.int .i64 (x2)) ∧ w'.cell? ⟨w.heap.size, 3, none⟩ = some (.int .i64 (x3)) ∧ w'.cell? ⟨w.heap.size, 4, none⟩ = some (.int .i64 (x4)) ∧ w'.cell? ⟨w.heap.size, 5, none⟩ = some (.int .i64 (x5)) ∧ w'.cell? ⟨w.heap.size, 6, none⟩ = some (.int .i64 (x6)) ∧ w'.cell? ⟨w.heap.size, 7, none⟩ = some (.int .i64 (x7)) ∧ w'.cell? ⟨w.heap.size, 8, none⟩ = some (.int .i64 (x8))) (by kernel_rfl) ?_
  show wpAnyT _ _ _ _ _ _ 11 _ _ _
  have hS0 := Lib.hid (show (fun w' => w'.cell? ⟨w.heap.size, 0, none⟩ = some (.int .i64 (x0)) ∧ w'.cell? ⟨w.heap.size, 1, none⟩ = some (.int .i64 (x1)) ∧ w'.cell? ⟨w.heap.size, 2, none⟩ = some (.int .i64 (x2)) ∧ w'.cell? ⟨w.heap.size, 3, none⟩ = some (.int .i64 (x3)) ∧ w'.cell? ⟨w.heap.size, 4, none⟩ = some (.int .i64 (x4)) ∧ w'.cell? ⟨w.heap.size, 5, none⟩ = some (.int .i64 (x5)) ∧ w'.cell? ⟨w.heap.size, 6, none⟩ = some (.int .i64 (x6)) ∧ w'.cell? ⟨w.heap.size, 7, none⟩ = some (.int .i64 (x7)) ∧ w'.cell? ⟨w.heap.size, 8, none⟩ = some (.int .i64 (x8))) W0.drew from HX.out.cells9D)
  refine T_take (i := 0) (v := .int .i64 0) rfl (by kernel_rfl) (by kernel_rfl) (by kernel_rfl) (by kernel_rfl) (fun _ _ _ h => h) hS0.out rfl (fun w' hS' => by (try dsimp only at hS'); go_simp) ?_
  try simp only [Act.put, List.setIfInBounds_toArray]
  refine T_take (i := 1) (v := .int .i64 0) rfl (by kernel_rfl) (by kernel_rfl) (by kernel_rfl) (by kernel_rfl) (fun _ _ _ h => h) hS0.out rfl (fun w' hS' => by (try dsimp only at hS'); go_simp) ?_
  try simp only [Act.put]
  refine T_take (i := 2) (v := .pointer (some ⟨w.heap.size, 0, none⟩)) rfl (by kernel_rfl) (by kernel_rfl) (by kernel_rfl) (by kernel_rfl) (fun _ _ _ h => h) hS0.out rfl (fun w' hS' => by (try dsimp only at hS'); go_simp) ?_
  try simp only [Act.put]
  refine T_take (i := 3) (v := .agg #[.int .i64 x0, .int .i64 x1, .int .i64 x2]) rfl (by kernel_rfl) (by kernel_rfl) (by kernel_rfl) (by kernel_rfl) (fun _ _ _ h => h) hS0.out rfl (fun w' hS' => by (try dsimp only at hS'); go_simp) ?_
  try simp only [Act.put]
  refine T_take (i := 4) (v := .int .i64 2) rfl (by kernel_rfl) (by kernel_rfl) (by kernel_rfl) (by kernel_rfl) (fun _ _ _ h => h) hS0.out rfl (fun w' hS' => by (try dsimp only at hS'); go_simp) ?_
  try simp only [Act.put]
  refine T_take (i := 5) (v := .int .i64 2) rfl (by kernel_rfl) (by kernel_rfl) (by kernel_rfl) (by kernel_rfl) (fun _ _ _ h => h) hS0.out rfl (fun w' hS' => by (try dsimp only at hS'); go_simp) ?_
  try simp only [Act.put]
  refine T_take (i := 6) (v := .pointer (some ⟨w.heap.size, 6, none⟩)) rfl (by kernel_rfl) (by kernel_rfl) (by kernel_rfl) (by kernel_rfl) (fun _ _ _ h => h) hS0.out rfl (fun w' hS' => by (try dsimp only at hS'); go_simp) ?_
  try simp only [Act.put]
  refine T_take (i := 7) (v := .agg #[.int .i64 x6, .int .i64 x7, .int .i64 x8]) rfl (by kernel_rfl) (by kernel_rfl) (by kernel_rfl) (by kernel_rfl) (fun _ _ _ h => h) hS0.out rfl (fun w' hS' => by (try dsimp only at hS'); go_simp) ?_
  try simp only [Act.put]
  refine T_step (i := 8) rfl (by kernel_rfl) rfl rfl ?_
  intro K hK
  go_simp
  refine (CT.out _).mono ?_
  rintro e V0 ⟨rfl, hb⟩
  have KX := Lib.hid (HX.out.belowE hb)
  have KR := Lib.hid (HR.out.belowE hb)
  have KB := Lib.hid ((HW.out.drew).trans (hb.mono HW.out.size))
  clear hb
  refine hK.out _ _ KX.out.cells9 ?_
  clear hK K
  try simp only [Act.put, List.setIfInBounds_toArray, List.set_cons_zero, List.set_cons_succ]
  refine T_anytake (i := 9) (v := .pointer (some ⟨w.heap.size, 0, none⟩)) rfl (by kernel_rfl) (by kernel_rfl) (by kernel_rfl) rfl (fun _ _ _ h => h) rfl (fun w' => by go_simp) ?_
  try simp only [Act.put, List.setIfInBounds_toArray]
  obtain ⟨c0, c1, c2⟩ := KX.out.cells.1
  have f0 := KX.out.frozen 0
  have f1 := KX.out.frozen 1
  have f2 := KX.out.frozen 2
  refine T_last (i := 10) rfl (by kernel_rfl) (by kernel_rfl) rfl rfl ?_
  go_simp
  have QX := Lib.hid (KX.out.set0 (x0 + -(x2 / x8) * x6) (x1 + -(x2 / x8) * x7) (x2 + -(x2 / x8) * x8))
  have QR := Lib.hid ((((KR.out.other (p := ⟨w.heap.size, 0, none⟩) (Nat.ne_of_lt (Nat.lt_succ_self _)) (.int .i64 (x0 + -(x2 / x8) * x6))).other (p := ⟨w.heap.size, 1, none⟩) (Nat.ne_of_lt (Nat.lt_succ_self _)) (.int .i64 (x1 + -(x2 / x8) * x7))).other (p := ⟨w.heap.size, 2, none⟩) (Nat.ne_of_lt (Nat.lt_succ_self _)) (.int .i64 (x2 + -(x2 / x8) * x8))))
  have QB := Lib.hid ((((KB.out.setCell (p := ⟨w.heap.size, 0, none⟩) (Nat.le_refl _) (.int .i64 (x0 + -(x2 / x8) * x6))).setCell (p := ⟨w.heap.size, 1, none⟩) (Nat.le_refl _) (.int .i64 (x1 + -(x2 / x8) * x7))).setCell (p := ⟨w.heap.size, 2, none⟩) (Nat.le_refl _) (.int .i64 (x2 + -(x2 / x8) * x8))))
  have HZ1 := Lib.hid (show redsH 2 [[x0, x1, x2], [x3, x4, x5], [x6, x7, x8]] 1 = [[x0 + -(x2 / x8) * x6, x1 + -(x2 / x8) * x7, x2 + -(x2 / x8) * x8], [x3, x4, x5], [x6, x7, x8]] by
    show redH 2 0 (redsH 2 [[x0, x1, x2], [x3, x4, x5], [x6, x7, x8]] 0) = _
    rw [HZ0.out]
    show ([[x0, x1, x2], [x3, x4, x5], [x6, x7, x8]] : List (List Int)).set 0 (lessL [x0, x1, x2] (scaleL [x6, x7, x8] (x2 / x8))) = _
    rw [red_three]
    rfl)
  clear c0 c1 c2 f0 f1 f2 HX HR HW CT HB HPO hS0
  go_wp2
  rw [rounds_succ]
  go_wp2
  obtain ⟨a, p, ha, hp, _, _, hpos, hba, hbp, hbs⟩ := HRO.out 1 (by omega)
  rw [HZ1.out] at ha hp
  obtain rfl : [x3, x4, x5] = a := Option.some.inj ha
  obtain rfl : [x6, x7, x8] = p := Option.some.inj hp
  have HB := Lib.hid (And.intro (bd_three' hba) (And.intro (bd_three' hbp) (bd_three' (show Bd [x6 * (x5 / x8), x7 * (x5 / x8), x8 * (x5 / x8)] 400000000000000000 from hbs))))
  have HPO := Lib.hid (show 0 < x8 from hpos)
  clear ha hp hpos hba hbp hbs
  refine wgen ?_
  intro W1 hW
  have HX := Lib.hid (show G9 W1 w.heap.size 45 (x0 + -(x2 / x8) * x6) (x1 + -(x2 / x8) * x7) (x2 + -(x2 / x8) * x8) x3 x4 x5 x6 x7 x8 by rw [hW]; first | exact QX.out.drewn | exact QX.out)
  have HR := Lib.hid (show G9 W1 (w.heap.size + 1) 45 0 0 0 0 0 0 0 0 0 by rw [hW]; first | exact QR.out.drewn | exact QR.out)
  have HW := Lib.hid (show Below w.heap.size w W1 by rw [hW]; first | exact QB.out.drew | exact QB.out)
  clear hW QX QR QB
  have CT := Lib.hid (fun W => i_redat2 x3 x4 x5 x6 x7 x8 HPO.out (by have := HB.out.2.1.2.2; omega) (by have h1 := HB.out.1.1; have h2 := HB.out.1.2.1; have h3 := HB.out.1.2.2; omega) (by have h1 := HB.out.2.2.1; have h2 := HB.out.2.2.2.1; have h3 := HB.out.2.2.2.2; simp only [Int.neg_mul]; rw [Int.mul_comm (x5 / x8) x6, Int.mul_comm (x5 / x8) x7, Int.mul_comm (x5 / x8) x8]; omega) W)
  refine T_begin (z := fun k => 8 < k) (S := fun w' => w'.cell? ⟨w.heap.size, 0, none⟩ = some (.int .i64 (x0 + -(x2 / x8) * x6)) ∧ w'.cell? ⟨w.heap.size, 1, none⟩ = some (.int .i64 (x1 + -(x2 / x8) * x7)) ∧ w'.cell? ⟨w.heap.size, 2, none⟩ = some (.int .i64 (x2 + -(x2 / x8) * x8)) ∧ w'.cell? ⟨w.heap.size, 3, none⟩ = some (.int .i64 (x3)) ∧ w'.cell? ⟨w.heap.size, 4, none⟩ = some (.int .i64 (x4)) ∧ w'.cell? ⟨w.heap.size, 5, none⟩ = some (.int .i64 (x5)) ∧ w'.cell? ⟨w.heap.size, 6, none⟩ = some (.int .i64 (x6)) ∧ w'.cell? ⟨w.heap.size, 7, none⟩ = some (.int .i64 (x7)) ∧ w'.cell? ⟨w.heap.size, 8, none⟩ = some (.int .i64 (x8))) (by kernel_rfl) ?_
  show wpAnyT _ _ _ _ _ _ 11 _ _ _
  have hS0 := Lib.hid (show (fun w' => w'.cell? ⟨w.heap.size, 0, none⟩ = some (.int .i64 (x0 + -(x2 / x8) * x6)) ∧ w'.cell? ⟨w.heap.size, 1, none⟩ = some (.int .i64 (x1 + -(x2 / x8) * x7)) ∧ w'.cell? ⟨w.heap.size, 2, none⟩ = some (.int .i64 (x2 + -(x2 / x8) * x8)) ∧ w'.cell? ⟨w.heap.size, 3, none⟩ = some (.int .i64 (x3)) ∧ w'.cell? ⟨w.heap.size, 4, none⟩ = some (.int .i64 (x4)) ∧ w'.cell? ⟨w.heap.size, 5, none⟩ = some (.int .i64 (x5)) ∧ w'.cell? ⟨w.heap.size, 6, none⟩ = some (.int .i64 (x6)) ∧ w'.cell? ⟨w.heap.size, 7, none⟩ = some (.int .i64 (x7)) ∧ w'.cell? ⟨w.heap.size, 8, none⟩ = some (.int .i64 (x8))) W1.drew from HX.out.cells9D)
  refine T_take (i := 0) (v := .int .i64 1) rfl (by kernel_rfl) (by kernel_rfl) (by kernel_rfl) (by kernel_rfl) (fun _ _ _ h => h) hS0.out rfl (fun w' hS' => by (try dsimp only at hS'); go_simp) ?_
  try simp only [Act.put, List.setIfInBounds_toArray]
  refine T_take (i := 1) (v := .int .i64 1) rfl (by kernel_rfl) (by kernel_rfl) (by kernel_rfl) (by kernel_rfl) (fun _ _ _ h => h) hS0.out rfl (fun w' hS' => by (try dsimp only at hS'); go_simp) ?_
  try simp only [Act.put]
  refine T_take (i := 2) (v := .pointer (some ⟨w.heap.size, 3, none⟩)) rfl (by kernel_rfl) (by kernel_rfl) (by kernel_rfl) (by kernel_rfl) (fun _ _ _ h => h) hS0.out rfl (fun w' hS' => by (try dsimp only at hS'); go_simp) ?_
  try simp only [Act.put]
  refine T_take (i := 3) (v := .agg #[.int .i64 x3, .int .i64 x4, .int .i64 x5]) rfl (by kernel_rfl) (by kernel_rfl) (by kernel_rfl) (by kernel_rfl) (fun _ _ _ h => h) hS0.out rfl (fun w' hS' => by (try dsimp only at hS'); go_simp) ?_
  try simp only [Act.put]
  refine T_take (i := 4) (v := .int .i64 2) rfl (by kernel_rfl) (by kernel_rfl) (by kernel_rfl) (by kernel_rfl) (fun _ _ _ h => h) hS0.out rfl (fun w' hS' => by (try dsimp only at hS'); go_simp) ?_
  try simp only [Act.put]
  refine T_take (i := 5) (v := .int .i64 2) rfl (by kernel_rfl) (by kernel_rfl) (by kernel_rfl) (by kernel_rfl) (fun _ _ _ h => h) hS0.out rfl (fun w' hS' => by (try dsimp only at hS'); go_simp) ?_
  try simp only [Act.put]
  refine T_take (i := 6) (v := .pointer (some ⟨w.heap.size, 6, none⟩)) rfl (by kernel_rfl) (by kernel_rfl) (by kernel_rfl) (by kernel_rfl) (fun _ _ _ h => h) hS0.out rfl (fun w' hS' => by (try dsimp only at hS'); go_simp) ?_
  try simp only [Act.put]
  refine T_take (i := 7) (v := .agg #[.int .i64 x6, .int .i64 x7, .int .i64 x8]) rfl (by kernel_rfl) (by kernel_rfl) (by kernel_rfl) (by kernel_rfl) (fun _ _ _ h => h) hS0.out rfl (fun w' hS' => by (try dsimp only at hS'); go_simp) ?_
  try simp only [Act.put]
  refine T_step (i := 8) rfl (by kernel_rfl) rfl rfl ?_
  intro K hK
  go_simp
  refine (CT.out _).mono ?_
  rintro e V1 ⟨rfl, hb⟩
  have KX := Lib.hid (HX.out.belowE hb)
  have KR := Lib.hid (HR.out.belowE hb)
  have KB := Lib.hid ((HW.out.drew).trans (hb.mono HW.out.size))
  clear hb
  refine hK.out _ _ KX.out.cells9 ?_
  clear hK K
  try simp only [Act.put, List.setIfInBounds_toArray, List.set_cons_zero, List.set_cons_succ]
  refine T_anytake (i := 9) (v := .pointer (some ⟨w.heap.size, 3, none⟩)) rfl (by kernel_rfl) (by kernel_rfl) (by kernel_rfl) rfl (fun _ _ _ h => h) rfl (fun w' => by go_simp) ?_
  try simp only [Act.put, List.setIfInBounds_toArray]
  obtain ⟨c0, c1, c2⟩ := KX.out.cells.2.1
  have f0 := KX.out.frozen 3
  have f1 := KX.out.frozen 4
  have f2 := KX.out.frozen 5
  refine T_last (i := 10) rfl (by kernel_rfl) (by kernel_rfl) rfl rfl ?_
  go_simp
  have QX := Lib.hid (KX.out.set1 (x3 + -(x5 / x8) * x6) (x4 + -(x5 / x8) * x7) (x5 + -(x5 / x8) * x8))
  have QR := Lib.hid ((((KR.out.other (p := ⟨w.heap.size, 3, none⟩) (Nat.ne_of_lt (Nat.lt_succ_self _)) (.int .i64 (x3 + -(x5 / x8) * x6))).other (p := ⟨w.heap.size, 4, none⟩) (Nat.ne_of_lt (Nat.lt_succ_self _)) (.int .i64 (x4 + -(x5 / x8) * x7))).other (p := ⟨w.heap.size, 5, none⟩) (Nat.ne_of_lt (Nat.lt_succ_self _)) (.int .i64 (x5 + -(x5 / x8) * x8))))
  have QB := Lib.hid ((((KB.out.setCell (p := ⟨w.heap.size, 3, none⟩) (Nat.le_refl _) (.int .i64 (x3 + -(x5 / x8) * x6))).setCell (p := ⟨w.heap.size, 4, none⟩) (Nat.le_refl _) (.int .i64 (x4 + -(x5 / x8) * x7))).setCell (p := ⟨w.heap.size, 5, none⟩) (Nat.le_refl _) (.int .i64 (x5 + -(x5 / x8) * x8))))
  have HZ2 := Lib.hid (show redsH 2 [[x0, x1, x2], [x3, x4, x5], [x6, x7, x8]] 2 = [[x0 + -(x2 / x8) * x6, x1 + -(x2 / x8) * x7, x2 + -(x2 / x8) * x8], [x3 + -(x5 / x8) * x6, x4 + -(x5 / x8) * x7, x5 + -(x5 / x8) * x8], [x6, x7, x8]] by
    show redH 2 1 (redsH 2 [[x0, x1, x2], [x3, x4, x5], [x6, x7, x8]] 1) = _
    rw [HZ1.out]
    show ([[x0 + -(x2 / x8) * x6, x1 + -(x2 / x8) * x7, x2 + -(x2 / x8) * x8], [x3, x4, x5], [x6, x7, x8]] : List (List Int)).set 1 (lessL [x3, x4, x5] (scaleL [x6, x7, x8] (x5 / x8))) = _
    rw [red_three]
    rfl)
  clear c0 c1 c2 f0 f1 f2 HX HR HW CT HB HPO hS0
  go_wp2
  rw [rounds_succ]
  obtain ⟨⟨l0, l1, l2⟩, ⟨l3, l4, l5⟩, l6, l7, l8⟩ := KX.out.cells
  obtain ⟨⟨j0, j1, j2⟩, ⟨j3, j4, j5⟩, j6, j7, j8⟩ := KR.out.cells
  have f0 := KR.out.frozen 0
  have f1 := KR.out.frozen 1
  have f2 := KR.out.frozen 2
  have f3 := KR.out.frozen 3
  have f4 := KR.out.frozen 4
  have f5 := KR.out.frozen 5
  have f6 := KR.out.frozen 6
  have f7 := KR.out.frozen 7
  have f8 := KR.out.frozen 8
  go_wp2
  refine bodyPost_ret (v := .agg #[.int .i64 (x0 + -(x2 / x8) * x6), .int .i64 (x1 + -(x2 / x8) * x7), .int .i64 (x2 + -(x2 / x8) * x8), .int .i64 (x3 + -(x5 / x8) * x6), .int .i64 (x4 + -(x5 / x8) * x7), .int .i64 (x5 + -(x5 / x8) * x8), .int .i64 x6, .int .i64 x7, .int .i64 x8]) ?_ rfl ⟨_, _, _, _, _, _, _, _, _, HZ2.out, rfl, ((((((((((((KB.out.setCell (p := ⟨w.heap.size, 3, none⟩) (Nat.le_refl _) _).setCell (p := ⟨w.heap.size, 4, none⟩) (Nat.le_refl _) _).setCell (p := ⟨w.heap.size, 5, none⟩) (Nat.le_refl _) _).setCell (p := ⟨w.heap.size + 1, 0, none⟩) (Nat.le_succ _) _).setCell (p := ⟨w.heap.size + 1, 1, none⟩) (Nat.le_succ _) _).setCell (p := ⟨w.heap.size + 1, 2, none⟩) (Nat.le_succ _) _).setCell (p := ⟨w.heap.size + 1, 3, none⟩) (Nat.le_succ _) _).setCell (p := ⟨w.heap.size + 1, 4, none⟩) (Nat.le_succ _) _).setCell (p := ⟨w.heap.size + 1, 5, none⟩) (Nat.le_succ _) _).setCell (p := ⟨w.heap.size + 1, 6, none⟩) (Nat.le_succ _) _).setCell (p := ⟨w.heap.size + 1, 7, none⟩) (Nat.le_succ _) _).setCell (p := ⟨w.heap.size + 1, 8, none⟩) (Nat.le_succ _) _)⟩
  simp [results, Tryz.results59, go_sem, j0, j1, j2, j3, j4, j5, j6, j7, j8]
end Go.Proofs.YtjijgagdaolkcaaGreat
