/- The program's cones: what one is, its index, which points it has. -/
import Derived.Test.YtoekgcafhcamjaaCnV
import Derived.Test.YtoekgcafhcamjaaPgJ
import Derived.Test.YtoekgcafhcamjaaVecJ
namespace Go.Proofs.Ytoekgcafhcamjaa
open Go Go.RowKit Go.Lib

set_option maxRecDepth 100000 in
theorem i_noray (x : Int) (w : World) : Calls Try.prog 113 #[.int .i64 x] w fun e w' => e = .returned (.bool (!inR x (-30) 30)) ∧ w = w' := by
  by_cases h1 : x < -30
  · have h := Lib.hid (inR_f (x := x) (lo := -30) (hi := 30) (fun h => by omega))
    go_enter Try.func113, Try.ntmps113
    go_wp2
    go_ret
    exact ⟨ret_bool (by rw [h.out]; rfl), rfl⟩
  · by_cases h2 : 30 < x
    · have h := Lib.hid (inR_f (x := x) (lo := -30) (hi := 30) (fun h => by omega))
      go_enter Try.func113, Try.ntmps113
      go_wp2
      go_ret
      exact ⟨ret_bool (by rw [h.out]; rfl), rfl⟩
    · have h := Lib.hid (inR_mk (x := x) (lo := -30) (hi := 30) (by omega) (by omega))
      go_enter Try.func113, Try.ntmps113
      go_wp2
      go_ret
      exact ⟨ret_bool (by rw [h.out]; rfl), rfl⟩

/-- Where the first number lies that is no coordinate, or -1. -/
def IdxRy (v : List Int) (w : World) (e : Ending) (w' : World) : Prop :=
  ((small v 30 = true ∧ e = .returned (.int .i64 (-1))) ∨ (small v 30 = false ∧ ∃ k : Nat, e = .returned (.int .i64 k))) ∧ Below w.heap.size w w'

set_option maxRecDepth 100000 in
set_option maxHeartbeats 400000 in
theorem i_indexry (v : List Int) (a : Value) (w : World) (hv : Sl w a (intVals v)) :
    Calls Try.prog 109 #[a, .func (.func 113) #[] #[]] w (IdxRy v w) := by
  obtain ⟨a, c, rfl, hm, hopen⟩ := hv.shape
  rw [intVals_len] at hm hopen ⊢
  unfold maxLen at hm
  have HO := Lib.hid hopen
  clear hopen hv
  go_enter Try.func109, Try.ntmps109
  go_wp2
  go_loopw [5, 8] (fun _ i wr => ∃ k : Nat, k ≤ v.length ∧ i = .int .i64 k ∧ small (v.take k) 30 = true ∧ Below w.heap.size w wr) (fun _ i _ => v.length - (RowKit.intOf i).toNat)
  case atStart => exact ⟨0, Nat.zero_le _, rfl, rfl, Below.refl _ _⟩
  case round =>
    obtain ⟨k, hk, rfl, ht, hbr⟩ := hrel
    have HB := Lib.hid hbr
    have HT := Lib.hid ht
    clear ht
    by_cases hlt : k < v.length
    · obtain ⟨b, off, rfl, hc, hlt2, hx⟩ := HO.out (by omega)
      have hcell := hx k _ (intVals_get v k hlt)
      rw [← hbr.cell (p := ⟨b, off + k, none⟩) hlt2] at hcell
      clear hx hbr
      by_cases hin : inR v[k] (-30) 30 = true
      · have HI := Lib.hid hin
        clear hin
        go_wp2_with fail
        refine (i_noray _ _).mono ?_
        rintro e w1 ⟨rfl, rfl⟩
        rw [HI.out]
        go_wp2_with fail
        exact ⟨⟨k + 1, by omega, by go_num, small_take hlt HT.out HI.out, HB.out⟩, by simp [RowKit.intOf]; omega⟩
      · have HI := Lib.hid (Bool.not_eq_true _ ▸ hin)
        clear hin
        go_wp2_with fail
        refine (i_noray _ _).mono ?_
        rintro e w1 ⟨rfl, rfl⟩
        rw [HI.out]
        go_wp2_with fail
        go_ret
        exact ⟨.inr ⟨small_not hlt HI.out, k, rfl⟩, HB.out⟩
    · obtain rfl : k = v.length := by omega
      clear hbr
      go_wp2
      go_ret
      refine ⟨.inl ⟨?_, rfl⟩, HB.out⟩
      have h := HT.out
      rw [List.take_length] at h
      exact h

set_option maxRecDepth 100000 in
theorem i_containsry (v : List Int) (a : Value) (w : World) (hv : Sl w a (intVals v)) :
    Calls Try.prog 68 #[a, .func (.func 113) #[] #[]] w (Quiet w (.bool (!small v 30))) := by
  have HV := Lib.hid hv
  clear hv
  go_enter Try.func68, Try.ntmps68
  go_wp2_with fail
  refine (i_indexry v a _ HV.out).mono ?_
  rintro e w1 ⟨⟨hs, rfl⟩ | ⟨hs, k, rfl⟩, hb⟩
  · have HS := Lib.hid hs
    clear hs
    go_wp2_with fail
    go_ret
    exact ⟨ret_bool (by rw [HS.out]; rfl), hb⟩
  · have HS := Lib.hid hs
    clear hs
    have h0 : (0 : Int) ≤ (k : Int) := by omega
    go_wp2_with fail
    go_ret
    exact ⟨ret_bool (by rw [HS.out]; rfl), hb⟩

theorem ray_two {v : List Int} (h : v.length = 2) : ∃ x y, v = rowOf (x, y) := by
  match v, h with
  | [a, b], _ => exact ⟨a, b, rfl⟩
theorem i_numP (p : P2) (a : Value) (w : World) (hv : Sl w a (intVals (rowOf p))) :
    Calls Try.prog 79 #[a] w (Quiet w (ptV p)) := i_num (rowOf p) p.1 p.2 0 rfl (by simp [rowOf]) (by simp [rowOf]) a w hv
theorem rayR_f1 {v : List Int} (h : v.length ≠ 2) : rayR v = false := by unfold rayR; rw [decide_eq_false h]; rfl
theorem rayR_f2 {v : List Int} (h : small v 30 = false) : rayR v = false := by unfold rayR; rw [h]; simp
theorem rayR_e {x y : Int} (h : small (rowOf (x, y)) 30 = true) : rayR (rowOf (x, y)) = decide (gcdI x y = 1) := by
  unfold rayR
  rw [h, show allG (rowOf (x, y)) = gcdI x y from gcd_two x y]; rfl
theorem coneF_1 {c : Cn} (h : rayR c.1 = false) : coneR c = false := by unfold coneR; rw [h]; rfl
theorem coneF_2 {c : Cn} (h1 : rayR c.1 = true) (h : rayR c.2 = false) : coneR c = false := by unfold coneR; rw [h1, h]; rfl
theorem coneE {c : Cn} (h1 : rayR c.1 = true) (h : rayR c.2 = true) : coneR c = decide (0 < crP (ptOf c.1) (ptOf c.2)) := by unfold coneR; rw [h1, h]; rfl
theorem Cn30.bd4 {p : P2} (h : Cn30 p) : BdP 4000 p := by unfold Cn30 at h; unfold BdP; omega

set_option maxRecDepth 100000 in
set_option maxHeartbeats 1600000 in
theorem i_primray (v : List Int) (a : Value) (w : World) (hv : Sl w a (intVals v)) :
    Calls Try.prog 81 #[a] w (Quiet w (.bool (rayR v))) := by
  by_cases h2 : v.length = 2
  · obtain ⟨x, y, rfl⟩ := ray_two h2
    have HV := Lib.hid hv
    obtain ⟨b, off, c, rfl, hc, hlt, hx, hy⟩ := row_cells hv
    clear h2 hv
    by_cases hs : small (rowOf (x, y)) 30 = true
    · have E := Lib.hid (rayR_e hs)
      have CC := Lib.hid (show ∀ W, Sl W (.slice (some ⟨b, off, none⟩) 2 c) (intVals (rowOf (x, y))) → Calls Try.prog 68 #[.slice (some ⟨b, off, none⟩) 2 c, .func (.func 113) #[] #[]] W (Quiet W (.bool false)) from fun W hW => by have h := i_containsry (rowOf (x, y)) (.slice (some ⟨b, off, none⟩) 2 c) W hW; rw [hs] at h; exact h)
      have CG := Lib.hid (fun W => i_gcd x y (by have := small_get hs 0 (by simp [rowOf]); simp [rowOf] at this; omega) (by have := small_get hs 0 (by simp [rowOf]); simp [rowOf] at this; omega) (by have := small_get hs 1 (by simp [rowOf]); simp [rowOf] at this; omega) (by have := small_get hs 1 (by simp [rowOf]); simp [rowOf] at this; omega) W)
      clear hs
      generalize gcdI x y = g at *
      go_enter Try.func81, Try.ntmps81
      go_wp2_with fail
      refine T_begin (z := fun k => 17 < k) (S := fun (w' : World) => w'.cell? ⟨b, off, none⟩ = some (.int .i64 x) ∧ w'.cell? ⟨b, off + 1, none⟩ = some (.int .i64 y) ∧ Below w.heap.size w w') (by kernel_rfl) ?_
      show wpAnyT _ _ _ _ _ _ 19 _ _ _
      have hS0 := Lib.hid (show (fun (w' : World) => w'.cell? ⟨b, off, none⟩ = some (.int .i64 x) ∧ w'.cell? ⟨b, off + 1, none⟩ = some (.int .i64 y) ∧ Below w.heap.size w w') (w.drew) from ⟨hx, hy, (Below.refl _ _).drew⟩)
      refine T_take (i := 0) (v := .slice (some ⟨b, off, none⟩) 2 c) rfl (by kernel_rfl) (by kernel_rfl) (by kernel_rfl) (by kernel_rfl) (fun _ _ _ h => h) hS0.out (by kernel_rfl) (fun w' hS' => by obtain ⟨h0, h1, -⟩ := hS'; go_simp) ?_
      refine T_take (i := 1) (v := .int .i64 2) rfl (by kernel_rfl) (by kernel_rfl) (by kernel_rfl) (by kernel_rfl) (fun _ _ _ h => h) hS0.out (by kernel_rfl) (fun w' hS' => by obtain ⟨h0, h1, -⟩ := hS'; go_simp) ?_
      refine T_take (i := 2) (v := .bool true) rfl (by kernel_rfl) (by kernel_rfl) (by kernel_rfl) (by kernel_rfl) (fun _ _ _ h => h) hS0.out (by kernel_rfl) (fun w' hS' => by obtain ⟨h0, h1, -⟩ := hS'; go_simp) ?_
      refine T_take (i := 3) (v := .bool true) rfl (by kernel_rfl) (by kernel_rfl) (by kernel_rfl) (by kernel_rfl) (fun _ _ _ h => h) hS0.out (by kernel_rfl) (fun w' hS' => by obtain ⟨h0, h1, -⟩ := hS'; go_simp) ?_
      refine T_take (i := 4) (v := .slice (some ⟨b, off, none⟩) 2 c) rfl (by kernel_rfl) (by kernel_rfl) (by kernel_rfl) (by kernel_rfl) (fun _ _ _ h => h) hS0.out (by kernel_rfl) (fun w' hS' => by obtain ⟨h0, h1, -⟩ := hS'; go_simp) ?_
      refine T_step (i := 5) rfl (by kernel_rfl) rfl (by kernel_rfl) ?_
      intro K hK
      go_simp
      refine (CC.out _ (HV.out.below hS0.out.2.2)).mono ?_
      rintro e' wT1 ⟨rfl, hb1⟩
      have hS1 := Lib.hid (show (fun (w' : World) => w'.cell? ⟨b, off, none⟩ = some (.int .i64 x) ∧ w'.cell? ⟨b, off + 1, none⟩ = some (.int .i64 y) ∧ Below w.heap.size w w') wT1 from ⟨(hb1.cell (Nat.lt_of_lt_of_le hlt hS0.out.2.2.size)).trans hS0.out.1, (hb1.cell (p := ⟨b, off + 1, none⟩) (Nat.lt_of_lt_of_le hlt hS0.out.2.2.size)).trans hS0.out.2.1, hS0.out.2.2.trans (hb1.mono hS0.out.2.2.size)⟩)
      refine hK.out _ _ hS1.out ?_
      clear hK K
      refine T_take (i := 6) (v := .bool true) rfl (by kernel_rfl) (by kernel_rfl) (by kernel_rfl) (by kernel_rfl) (fun _ _ _ h => h) hS1.out (by kernel_rfl) (fun w' hS' => by obtain ⟨h0, h1, -⟩ := hS'; go_simp) ?_
      refine T_take (i := 7) (v := .bool true) rfl (by kernel_rfl) (by kernel_rfl) (by kernel_rfl) (by kernel_rfl) (fun _ _ _ h => h) hS1.out (by kernel_rfl) (fun w' hS' => by obtain ⟨h0, h1, -⟩ := hS'; go_simp) ?_
      refine T_take (i := 8) (v := .bool true) rfl (by kernel_rfl) (by kernel_rfl) (by kernel_rfl) (by kernel_rfl) (fun _ _ _ h => h) hS1.out (by kernel_rfl) (fun w' hS' => by obtain ⟨h0, h1, -⟩ := hS'; go_simp) ?_
      refine T_take (i := 9) (v := .slice (some ⟨b, off, none⟩) 2 c) rfl (by kernel_rfl) (by kernel_rfl) (by kernel_rfl) (by kernel_rfl) (fun _ _ _ h => h) hS1.out (by kernel_rfl) (fun w' hS' => by obtain ⟨h0, h1, -⟩ := hS'; go_simp) ?_
      refine T_take (i := 10) (v := .pointer (some ⟨b, off, none⟩)) rfl (by kernel_rfl) (by kernel_rfl) (by kernel_rfl) (by kernel_rfl) (fun _ _ _ h => h) hS1.out (by kernel_rfl) (fun w' hS' => by obtain ⟨h0, h1, -⟩ := hS'; go_simp) ?_
      refine T_take (i := 11) (v := .int .i64 x) rfl (by kernel_rfl) (by kernel_rfl) (by kernel_rfl) (by kernel_rfl) (fun _ _ _ h => h) hS1.out (by kernel_rfl) (fun w' hS' => by obtain ⟨h0, h1, -⟩ := hS'; go_simp) ?_
      refine T_take (i := 12) (v := .slice (some ⟨b, off, none⟩) 2 c) rfl (by kernel_rfl) (by kernel_rfl) (by kernel_rfl) (by kernel_rfl) (fun _ _ _ h => h) hS1.out (by kernel_rfl) (fun w' hS' => by obtain ⟨h0, h1, -⟩ := hS'; go_simp) ?_
      refine T_take (i := 13) (v := .pointer (some ⟨b, off + 1, none⟩)) rfl (by kernel_rfl) (by kernel_rfl) (by kernel_rfl) (by kernel_rfl) (fun _ _ _ h => h) hS1.out (by kernel_rfl) (fun w' hS' => by obtain ⟨h0, h1, -⟩ := hS'; go_simp) ?_
      refine T_take (i := 14) (v := .int .i64 y) rfl (by kernel_rfl) (by kernel_rfl) (by kernel_rfl) (by kernel_rfl) (fun _ _ _ h => h) hS1.out (by kernel_rfl) (fun w' hS' => by obtain ⟨h0, h1, -⟩ := hS'; go_simp) ?_
      refine T_step (i := 15) rfl (by kernel_rfl) rfl (by kernel_rfl) ?_
      intro K hK
      go_simp
      refine (CG.out _).mono ?_
      rintro e' wT2 ⟨rfl, hb2⟩
      have hS2 := Lib.hid (show (fun (w' : World) => w'.cell? ⟨b, off, none⟩ = some (.int .i64 x) ∧ w'.cell? ⟨b, off + 1, none⟩ = some (.int .i64 y) ∧ Below w.heap.size w w') wT2 from ⟨(hb2.cell (Nat.lt_of_lt_of_le hlt hS1.out.2.2.size)).trans hS1.out.1, (hb2.cell (p := ⟨b, off + 1, none⟩) (Nat.lt_of_lt_of_le hlt hS1.out.2.2.size)).trans hS1.out.2.1, hS1.out.2.2.trans (hb2.mono hS1.out.2.2.size)⟩)
      refine hK.out _ _ hS2.out ?_
      clear hK K
      refine T_take (i := 16) (v := .bool (g == 1)) rfl (by kernel_rfl) (by kernel_rfl) (by kernel_rfl) (by kernel_rfl) (fun _ _ _ h => h) hS2.out (by kernel_rfl) (fun w' hS' => by obtain ⟨h0, h1, -⟩ := hS'; go_simp) ?_
      refine T_take (i := 17) (v := .bool (g == 1)) rfl (by kernel_rfl) (by kernel_rfl) (by kernel_rfl) (by kernel_rfl) (fun _ _ _ h => h) hS2.out (by kernel_rfl) (fun w' hS' => by obtain ⟨h0, h1, -⟩ := hS'; go_simp) ?_
      refine T_last (i := 18) rfl (by kernel_rfl) (by kernel_rfl) rfl (by kernel_rfl) ?_
      go_simp
      have HB := Lib.hid hS2.out.2.2
      clear hS0 hS1 hS2
      go_wp2
      go_ret
      exact ⟨ret_bool (by rw [E.out]; rfl), HB.out⟩
    · have E := Lib.hid (rayR_f2 (bool_f hs))
      have CC := Lib.hid (show ∀ W, Sl W (.slice (some ⟨b, off, none⟩) 2 c) (intVals (rowOf (x, y))) → Calls Try.prog 68 #[.slice (some ⟨b, off, none⟩) 2 c, .func (.func 113) #[] #[]] W (Quiet W (.bool true)) from fun W hW => by have h := i_containsry (rowOf (x, y)) (.slice (some ⟨b, off, none⟩) 2 c) W hW; rw [bool_f hs] at h; exact h)
      clear hs
      go_enter Try.func81, Try.ntmps81
      go_wp2_with fail
      refine T_begin (z := fun k => 17 < k) (S := fun (w' : World) => w'.cell? ⟨b, off, none⟩ = some (.int .i64 x) ∧ w'.cell? ⟨b, off + 1, none⟩ = some (.int .i64 y) ∧ Below w.heap.size w w') (by kernel_rfl) ?_
      show wpAnyT _ _ _ _ _ _ 19 _ _ _
      have hS0 := Lib.hid (show (fun (w' : World) => w'.cell? ⟨b, off, none⟩ = some (.int .i64 x) ∧ w'.cell? ⟨b, off + 1, none⟩ = some (.int .i64 y) ∧ Below w.heap.size w w') (w.drew) from ⟨hx, hy, (Below.refl _ _).drew⟩)
      refine T_take (i := 0) (v := .slice (some ⟨b, off, none⟩) 2 c) rfl (by kernel_rfl) (by kernel_rfl) (by kernel_rfl) (by kernel_rfl) (fun _ _ _ h => h) hS0.out (by kernel_rfl) (fun w' hS' => by obtain ⟨h0, h1, -⟩ := hS'; go_simp) ?_
      refine T_take (i := 1) (v := .int .i64 2) rfl (by kernel_rfl) (by kernel_rfl) (by kernel_rfl) (by kernel_rfl) (fun _ _ _ h => h) hS0.out (by kernel_rfl) (fun w' hS' => by obtain ⟨h0, h1, -⟩ := hS'; go_simp) ?_
      refine T_take (i := 2) (v := .bool true) rfl (by kernel_rfl) (by kernel_rfl) (by kernel_rfl) (by kernel_rfl) (fun _ _ _ h => h) hS0.out (by kernel_rfl) (fun w' hS' => by obtain ⟨h0, h1, -⟩ := hS'; go_simp) ?_
      refine T_take (i := 3) (v := .bool true) rfl (by kernel_rfl) (by kernel_rfl) (by kernel_rfl) (by kernel_rfl) (fun _ _ _ h => h) hS0.out (by kernel_rfl) (fun w' hS' => by obtain ⟨h0, h1, -⟩ := hS'; go_simp) ?_
      refine T_take (i := 4) (v := .slice (some ⟨b, off, none⟩) 2 c) rfl (by kernel_rfl) (by kernel_rfl) (by kernel_rfl) (by kernel_rfl) (fun _ _ _ h => h) hS0.out (by kernel_rfl) (fun w' hS' => by obtain ⟨h0, h1, -⟩ := hS'; go_simp) ?_
      refine T_step (i := 5) rfl (by kernel_rfl) rfl (by kernel_rfl) ?_
      intro K hK
      go_simp
      refine (CC.out _ (HV.out.below hS0.out.2.2)).mono ?_
      rintro e' wT1 ⟨rfl, hb1⟩
      have hS1 := Lib.hid (show (fun (w' : World) => w'.cell? ⟨b, off, none⟩ = some (.int .i64 x) ∧ w'.cell? ⟨b, off + 1, none⟩ = some (.int .i64 y) ∧ Below w.heap.size w w') wT1 from ⟨(hb1.cell (Nat.lt_of_lt_of_le hlt hS0.out.2.2.size)).trans hS0.out.1, (hb1.cell (p := ⟨b, off + 1, none⟩) (Nat.lt_of_lt_of_le hlt hS0.out.2.2.size)).trans hS0.out.2.1, hS0.out.2.2.trans (hb1.mono hS0.out.2.2.size)⟩)
      refine hK.out _ _ hS1.out ?_
      clear hK K
      refine T_take (i := 6) (v := .bool false) rfl (by kernel_rfl) (by kernel_rfl) (by kernel_rfl) (by kernel_rfl) (fun _ _ _ h => h) hS1.out (by kernel_rfl) (fun w' hS' => by obtain ⟨h0, h1, -⟩ := hS'; go_simp) ?_
      refine T_take (i := 7) (v := .bool false) rfl (by kernel_rfl) (by kernel_rfl) (by kernel_rfl) (by kernel_rfl) (fun _ _ _ h => h) hS1.out (by kernel_rfl) (fun w' hS' => by obtain ⟨h0, h1, -⟩ := hS'; go_simp) ?_
      refine T_take (i := 8) (v := .bool false) rfl (by kernel_rfl) (by kernel_rfl) (by kernel_rfl) (by kernel_rfl) (fun _ _ _ h => h) hS1.out (by kernel_rfl) (fun w' hS' => by obtain ⟨h0, h1, -⟩ := hS'; go_simp) ?_
      refine T_pass (i := 9) rfl (by kernel_rfl) (by kernel_rfl) (by kernel_rfl) (by kernel_rfl) (fun _ _ _ h => h) hS1.out (by kernel_rfl) ?_
      refine T_pass (i := 10) rfl (by kernel_rfl) (by kernel_rfl) (by kernel_rfl) (by kernel_rfl) (fun _ _ _ h => h) hS1.out (by kernel_rfl) ?_
      refine T_pass (i := 11) rfl (by kernel_rfl) (by kernel_rfl) (by kernel_rfl) (by kernel_rfl) (fun _ _ _ h => h) hS1.out (by kernel_rfl) ?_
      refine T_pass (i := 12) rfl (by kernel_rfl) (by kernel_rfl) (by kernel_rfl) (by kernel_rfl) (fun _ _ _ h => h) hS1.out (by kernel_rfl) ?_
      refine T_pass (i := 13) rfl (by kernel_rfl) (by kernel_rfl) (by kernel_rfl) (by kernel_rfl) (fun _ _ _ h => h) hS1.out (by kernel_rfl) ?_
      refine T_pass (i := 14) rfl (by kernel_rfl) (by kernel_rfl) (by kernel_rfl) (by kernel_rfl) (fun _ _ _ h => h) hS1.out (by kernel_rfl) ?_
      refine T_pass (i := 15) rfl (by kernel_rfl) (by kernel_rfl) (by kernel_rfl) (by kernel_rfl) (fun _ _ _ h => h) hS1.out (by kernel_rfl) ?_
      refine T_pass (i := 16) rfl (by kernel_rfl) (by kernel_rfl) (by kernel_rfl) (by kernel_rfl) (fun _ _ _ h => h) hS1.out (by kernel_rfl) ?_
      refine T_take (i := 17) (v := .bool false) rfl (by kernel_rfl) (by kernel_rfl) (by kernel_rfl) (by kernel_rfl) (fun _ _ _ h => h) hS1.out (by kernel_rfl) (fun w' hS' => by obtain ⟨h0, h1, -⟩ := hS'; go_simp) ?_
      refine T_last (i := 18) rfl (by kernel_rfl) (by kernel_rfl) rfl (by kernel_rfl) ?_
      go_simp
      have HB := Lib.hid hS1.out.2.2
      clear hS0 hS1
      go_wp2
      go_ret
      exact ⟨ret_bool E.out.symm, HB.out⟩
  · have E := Lib.hid (rayR_f1 h2)
    obtain ⟨ad, c, rfl, hm, _⟩ := hv.shape
    rw [intVals_len] at hm ⊢
    unfold maxLen at hm
    have i2 : ((v.length : Int) == 2) = false := by rw [beq_eq_false_iff_ne]; omega
    clear hv h2
    go_enter Try.func81, Try.ntmps81
    go_wp2_with fail
    go_quiet (fail)
    go_wp2
    go_ret
    exact ⟨ret_bool E.out.symm, below_drewN' (Below.refl _ _) _⟩

set_option maxRecDepth 100000 in
set_option maxHeartbeats 1600000 in
theorem i_cone (c : Cn) (v : Value) (w : World) (hv : Cv w v c) :
    Calls Try.prog 29 #[v] w (Quiet w (.bool (coneR c))) := by
  obtain ⟨u, t, rfl, hs, ht⟩ := hv
  have HS := Lib.hid hs
  have HT := Lib.hid ht
  have K := Lib.hid (Bk.new w #[u, t] 26)
  have B0 := Lib.hid (below1 w (.cells #[u, t] 26))
  clear hs ht
  by_cases h1 : rayR c.1 = true
  case neg =>
    have H1 := Lib.hid (bool_f h1)
    have E := Lib.hid (coneF_1 (bool_f h1))
    clear h1
    go_enter Try.func29, Try.ntmps29
    go_wp2_with fail
    refine T_begin (z := fun k => 17 < k) (S := fun (w' : World) => Bk w' w.heap.size #[u, t] 26 ∧ Below w.heap.size w w') (by kernel_rfl) ?_
    show wpAnyT _ _ _ _ _ _ 19 _ _ _
    have hS0 := Lib.hid (show (fun (w' : World) => Bk w' w.heap.size #[u, t] 26 ∧ Below w.heap.size w w') ((w.alloc (.cells #[u, t] 26)).drew) from ⟨K.out, B0.out.drew⟩)
    refine T_take (i := 0) (v := .pointer (some ⟨w.heap.size, 0, none⟩)) rfl (by kernel_rfl) (by kernel_rfl) (by kernel_rfl) (by kernel_rfl) (fun _ _ _ h => h) hS0.out (by kernel_rfl) (fun w' hS' => by obtain ⟨⟨h0, h1⟩, -⟩ := hS'.1.two; go_simp) ?_
    refine T_take (i := 1) (v := u) rfl (by kernel_rfl) (by kernel_rfl) (by kernel_rfl) (by kernel_rfl) (fun _ _ _ h => h) hS0.out (by kernel_rfl) (fun w' hS' => by obtain ⟨⟨h0, h1⟩, -⟩ := hS'.1.two; go_simp) ?_
    refine T_step (i := 2) rfl (by kernel_rfl) rfl (by kernel_rfl) ?_
    intro K hK
    go_simp
    refine (i_primray c.1 u _ (HS.out.below hS0.out.2)).mono ?_
    rintro e' wT1 ⟨rfl, hb1⟩
    rw [H1.out]
    have hS1 := Lib.hid (show (fun (w' : World) => Bk w' w.heap.size #[u, t] 26 ∧ Below w.heap.size w w') wT1 from ⟨hS0.out.1.below hb1, hS0.out.2.trans (hb1.mono hS0.out.2.size)⟩)
    refine hK.out _ _ hS1.out ?_
    clear hK K
    refine T_take (i := 3) (v := .bool false) rfl (by kernel_rfl) (by kernel_rfl) (by kernel_rfl) (by kernel_rfl) (fun _ _ _ h => h) hS1.out (by kernel_rfl) (fun w' hS' => by obtain ⟨⟨h0, h1⟩, -⟩ := hS'.1.two; go_simp) ?_
    refine T_pass (i := 4) rfl (by kernel_rfl) (by kernel_rfl) (by kernel_rfl) (by kernel_rfl) (fun _ _ _ h => h) hS1.out (by kernel_rfl) ?_
    refine T_pass (i := 5) rfl (by kernel_rfl) (by kernel_rfl) (by kernel_rfl) (by kernel_rfl) (fun _ _ _ h => h) hS1.out (by kernel_rfl) ?_
    refine T_pass (i := 6) rfl (by kernel_rfl) (by kernel_rfl) (by kernel_rfl) (by kernel_rfl) (fun _ _ _ h => h) hS1.out (by kernel_rfl) ?_
    refine T_take (i := 7) (v := .bool false) rfl (by kernel_rfl) (by kernel_rfl) (by kernel_rfl) (by kernel_rfl) (fun _ _ _ h => h) hS1.out (by kernel_rfl) (fun w' hS' => by obtain ⟨⟨h0, h1⟩, -⟩ := hS'.1.two; go_simp) ?_
    refine T_take (i := 8) (v := .bool false) rfl (by kernel_rfl) (by kernel_rfl) (by kernel_rfl) (by kernel_rfl) (fun _ _ _ h => h) hS1.out (by kernel_rfl) (fun w' hS' => by obtain ⟨⟨h0, h1⟩, -⟩ := hS'.1.two; go_simp) ?_
    refine T_pass (i := 9) rfl (by kernel_rfl) (by kernel_rfl) (by kernel_rfl) (by kernel_rfl) (fun _ _ _ h => h) hS1.out (by kernel_rfl) ?_
    refine T_pass (i := 10) rfl (by kernel_rfl) (by kernel_rfl) (by kernel_rfl) (by kernel_rfl) (fun _ _ _ h => h) hS1.out (by kernel_rfl) ?_
    refine T_pass (i := 11) rfl (by kernel_rfl) (by kernel_rfl) (by kernel_rfl) (by kernel_rfl) (fun _ _ _ h => h) hS1.out (by kernel_rfl) ?_
    refine T_pass (i := 12) rfl (by kernel_rfl) (by kernel_rfl) (by kernel_rfl) (by kernel_rfl) (fun _ _ _ h => h) hS1.out (by kernel_rfl) ?_
    refine T_pass (i := 13) rfl (by kernel_rfl) (by kernel_rfl) (by kernel_rfl) (by kernel_rfl) (fun _ _ _ h => h) hS1.out (by kernel_rfl) ?_
    refine T_pass (i := 14) rfl (by kernel_rfl) (by kernel_rfl) (by kernel_rfl) (by kernel_rfl) (fun _ _ _ h => h) hS1.out (by kernel_rfl) ?_
    refine T_pass (i := 15) rfl (by kernel_rfl) (by kernel_rfl) (by kernel_rfl) (by kernel_rfl) (fun _ _ _ h => h) hS1.out (by kernel_rfl) ?_
    refine T_pass (i := 16) rfl (by kernel_rfl) (by kernel_rfl) (by kernel_rfl) (by kernel_rfl) (fun _ _ _ h => h) hS1.out (by kernel_rfl) ?_
    refine T_take (i := 17) (v := .bool false) rfl (by kernel_rfl) (by kernel_rfl) (by kernel_rfl) (by kernel_rfl) (fun _ _ _ h => h) hS1.out (by kernel_rfl) (fun w' hS' => by obtain ⟨⟨h0, h1⟩, -⟩ := hS'.1.two; go_simp) ?_
    refine T_last (i := 18) rfl (by kernel_rfl) (by kernel_rfl) rfl (by kernel_rfl) ?_
    go_simp
    have HB := Lib.hid hS1.out.2
    clear hS0 hS1
    go_wp2
    go_ret
    exact ⟨ret_bool E.out.symm, HB.out⟩
  have H1 := Lib.hid h1
  clear h1
  by_cases h2 : rayR c.2 = true
  case neg =>
    have H2 := Lib.hid (bool_f h2)
    have E := Lib.hid (coneF_2 H1.out (bool_f h2))
    clear h2
    go_enter Try.func29, Try.ntmps29
    go_wp2_with fail
    refine T_begin (z := fun k => 17 < k) (S := fun (w' : World) => Bk w' w.heap.size #[u, t] 26 ∧ Below w.heap.size w w') (by kernel_rfl) ?_
    show wpAnyT _ _ _ _ _ _ 19 _ _ _
    have hS0 := Lib.hid (show (fun (w' : World) => Bk w' w.heap.size #[u, t] 26 ∧ Below w.heap.size w w') ((w.alloc (.cells #[u, t] 26)).drew) from ⟨K.out, B0.out.drew⟩)
    refine T_take (i := 0) (v := .pointer (some ⟨w.heap.size, 0, none⟩)) rfl (by kernel_rfl) (by kernel_rfl) (by kernel_rfl) (by kernel_rfl) (fun _ _ _ h => h) hS0.out (by kernel_rfl) (fun w' hS' => by obtain ⟨⟨h0, h1⟩, -⟩ := hS'.1.two; go_simp) ?_
    refine T_take (i := 1) (v := u) rfl (by kernel_rfl) (by kernel_rfl) (by kernel_rfl) (by kernel_rfl) (fun _ _ _ h => h) hS0.out (by kernel_rfl) (fun w' hS' => by obtain ⟨⟨h0, h1⟩, -⟩ := hS'.1.two; go_simp) ?_
    refine T_step (i := 2) rfl (by kernel_rfl) rfl (by kernel_rfl) ?_
    intro K hK
    go_simp
    refine (i_primray c.1 u _ (HS.out.below hS0.out.2)).mono ?_
    rintro e' wT1 ⟨rfl, hb1⟩
    rw [H1.out]
    have hS1 := Lib.hid (show (fun (w' : World) => Bk w' w.heap.size #[u, t] 26 ∧ Below w.heap.size w w') wT1 from ⟨hS0.out.1.below hb1, hS0.out.2.trans (hb1.mono hS0.out.2.size)⟩)
    refine hK.out _ _ hS1.out ?_
    clear hK K
    refine T_take (i := 3) (v := .bool true) rfl (by kernel_rfl) (by kernel_rfl) (by kernel_rfl) (by kernel_rfl) (fun _ _ _ h => h) hS1.out (by kernel_rfl) (fun w' hS' => by obtain ⟨⟨h0, h1⟩, -⟩ := hS'.1.two; go_simp) ?_
    refine T_take (i := 4) (v := .pointer (some ⟨w.heap.size, 1, none⟩)) rfl (by kernel_rfl) (by kernel_rfl) (by kernel_rfl) (by kernel_rfl) (fun _ _ _ h => h) hS1.out (by kernel_rfl) (fun w' hS' => by obtain ⟨⟨h0, h1⟩, -⟩ := hS'.1.two; go_simp) ?_
    refine T_take (i := 5) (v := t) rfl (by kernel_rfl) (by kernel_rfl) (by kernel_rfl) (by kernel_rfl) (fun _ _ _ h => h) hS1.out (by kernel_rfl) (fun w' hS' => by obtain ⟨⟨h0, h1⟩, -⟩ := hS'.1.two; go_simp) ?_
    refine T_step (i := 6) rfl (by kernel_rfl) rfl (by kernel_rfl) ?_
    intro K hK
    go_simp
    refine (i_primray c.2 t _ (HT.out.below hS1.out.2)).mono ?_
    rintro e' wT2 ⟨rfl, hb2⟩
    rw [H2.out]
    have hS2 := Lib.hid (show (fun (w' : World) => Bk w' w.heap.size #[u, t] 26 ∧ Below w.heap.size w w') wT2 from ⟨hS1.out.1.below hb2, hS1.out.2.trans (hb2.mono hS1.out.2.size)⟩)
    refine hK.out _ _ hS2.out ?_
    clear hK K
    refine T_take (i := 7) (v := .bool false) rfl (by kernel_rfl) (by kernel_rfl) (by kernel_rfl) (by kernel_rfl) (fun _ _ _ h => h) hS2.out (by kernel_rfl) (fun w' hS' => by obtain ⟨⟨h0, h1⟩, -⟩ := hS'.1.two; go_simp) ?_
    refine T_take (i := 8) (v := .bool false) rfl (by kernel_rfl) (by kernel_rfl) (by kernel_rfl) (by kernel_rfl) (fun _ _ _ h => h) hS2.out (by kernel_rfl) (fun w' hS' => by obtain ⟨⟨h0, h1⟩, -⟩ := hS'.1.two; go_simp) ?_
    refine T_pass (i := 9) rfl (by kernel_rfl) (by kernel_rfl) (by kernel_rfl) (by kernel_rfl) (fun _ _ _ h => h) hS2.out (by kernel_rfl) ?_
    refine T_pass (i := 10) rfl (by kernel_rfl) (by kernel_rfl) (by kernel_rfl) (by kernel_rfl) (fun _ _ _ h => h) hS2.out (by kernel_rfl) ?_
    refine T_pass (i := 11) rfl (by kernel_rfl) (by kernel_rfl) (by kernel_rfl) (by kernel_rfl) (fun _ _ _ h => h) hS2.out (by kernel_rfl) ?_
    refine T_pass (i := 12) rfl (by kernel_rfl) (by kernel_rfl) (by kernel_rfl) (by kernel_rfl) (fun _ _ _ h => h) hS2.out (by kernel_rfl) ?_
    refine T_pass (i := 13) rfl (by kernel_rfl) (by kernel_rfl) (by kernel_rfl) (by kernel_rfl) (fun _ _ _ h => h) hS2.out (by kernel_rfl) ?_
    refine T_pass (i := 14) rfl (by kernel_rfl) (by kernel_rfl) (by kernel_rfl) (by kernel_rfl) (fun _ _ _ h => h) hS2.out (by kernel_rfl) ?_
    refine T_pass (i := 15) rfl (by kernel_rfl) (by kernel_rfl) (by kernel_rfl) (by kernel_rfl) (fun _ _ _ h => h) hS2.out (by kernel_rfl) ?_
    refine T_pass (i := 16) rfl (by kernel_rfl) (by kernel_rfl) (by kernel_rfl) (by kernel_rfl) (fun _ _ _ h => h) hS2.out (by kernel_rfl) ?_
    refine T_take (i := 17) (v := .bool false) rfl (by kernel_rfl) (by kernel_rfl) (by kernel_rfl) (by kernel_rfl) (fun _ _ _ h => h) hS2.out (by kernel_rfl) (fun w' hS' => by obtain ⟨⟨h0, h1⟩, -⟩ := hS'.1.two; go_simp) ?_
    refine T_last (i := 18) rfl (by kernel_rfl) (by kernel_rfl) rfl (by kernel_rfl) ?_
    go_simp
    have HB := Lib.hid hS2.out.2
    clear hS0 hS1 hS2
    go_wp2
    go_ret
    exact ⟨ret_bool E.out.symm, HB.out⟩
  have H2 := Lib.hid h2
  have E := Lib.hid (coneE H1.out h2)
  have R1 := Lib.hid (rayR_t H1.out)
  have R2 := Lib.hid (rayR_t h2)
  clear h2
  obtain ⟨d, hd⟩ : ∃ d, crP (ptOf c.1) (ptOf c.2) = d := ⟨_, rfl⟩
  have HD := Lib.hid hd
  rw [hd] at E
  clear hd
  go_enter Try.func29, Try.ntmps29
  go_wp2_with fail
  refine T_begin (z := fun k => 17 < k) (S := fun (w' : World) => Bk w' w.heap.size #[u, t] 26 ∧ Below w.heap.size w w') (by kernel_rfl) ?_
  show wpAnyT _ _ _ _ _ _ 19 _ _ _
  have hS0 := Lib.hid (show (fun (w' : World) => Bk w' w.heap.size #[u, t] 26 ∧ Below w.heap.size w w') ((w.alloc (.cells #[u, t] 26)).drew) from ⟨K.out, B0.out.drew⟩)
  refine T_take (i := 0) (v := .pointer (some ⟨w.heap.size, 0, none⟩)) rfl (by kernel_rfl) (by kernel_rfl) (by kernel_rfl) (by kernel_rfl) (fun _ _ _ h => h) hS0.out (by kernel_rfl) (fun w' hS' => by obtain ⟨⟨h0, h1⟩, -⟩ := hS'.1.two; go_simp) ?_
  refine T_take (i := 1) (v := u) rfl (by kernel_rfl) (by kernel_rfl) (by kernel_rfl) (by kernel_rfl) (fun _ _ _ h => h) hS0.out (by kernel_rfl) (fun w' hS' => by obtain ⟨⟨h0, h1⟩, -⟩ := hS'.1.two; go_simp) ?_
  refine T_step (i := 2) rfl (by kernel_rfl) rfl (by kernel_rfl) ?_
  intro K hK
  go_simp
  refine (i_primray c.1 u _ (HS.out.below hS0.out.2)).mono ?_
  rintro e' wT1 ⟨rfl, hb1⟩
  rw [H1.out]
  have hS1 := Lib.hid (show (fun (w' : World) => Bk w' w.heap.size #[u, t] 26 ∧ Below w.heap.size w w') wT1 from ⟨hS0.out.1.below hb1, hS0.out.2.trans (hb1.mono hS0.out.2.size)⟩)
  refine hK.out _ _ hS1.out ?_
  clear hK K
  refine T_take (i := 3) (v := .bool true) rfl (by kernel_rfl) (by kernel_rfl) (by kernel_rfl) (by kernel_rfl) (fun _ _ _ h => h) hS1.out (by kernel_rfl) (fun w' hS' => by obtain ⟨⟨h0, h1⟩, -⟩ := hS'.1.two; go_simp) ?_
  refine T_take (i := 4) (v := .pointer (some ⟨w.heap.size, 1, none⟩)) rfl (by kernel_rfl) (by kernel_rfl) (by kernel_rfl) (by kernel_rfl) (fun _ _ _ h => h) hS1.out (by kernel_rfl) (fun w' hS' => by obtain ⟨⟨h0, h1⟩, -⟩ := hS'.1.two; go_simp) ?_
  refine T_take (i := 5) (v := t) rfl (by kernel_rfl) (by kernel_rfl) (by kernel_rfl) (by kernel_rfl) (fun _ _ _ h => h) hS1.out (by kernel_rfl) (fun w' hS' => by obtain ⟨⟨h0, h1⟩, -⟩ := hS'.1.two; go_simp) ?_
  refine T_step (i := 6) rfl (by kernel_rfl) rfl (by kernel_rfl) ?_
  intro K hK
  go_simp
  refine (i_primray c.2 t _ (HT.out.below hS1.out.2)).mono ?_
  rintro e' wT2 ⟨rfl, hb2⟩
  rw [H2.out]
  have hS2 := Lib.hid (show (fun (w' : World) => Bk w' w.heap.size #[u, t] 26 ∧ Below w.heap.size w w') wT2 from ⟨hS1.out.1.below hb2, hS1.out.2.trans (hb2.mono hS1.out.2.size)⟩)
  refine hK.out _ _ hS2.out ?_
  clear hK K
  refine T_take (i := 7) (v := .bool true) rfl (by kernel_rfl) (by kernel_rfl) (by kernel_rfl) (by kernel_rfl) (fun _ _ _ h => h) hS2.out (by kernel_rfl) (fun w' hS' => by obtain ⟨⟨h0, h1⟩, -⟩ := hS'.1.two; go_simp) ?_
  refine T_take (i := 8) (v := .bool true) rfl (by kernel_rfl) (by kernel_rfl) (by kernel_rfl) (by kernel_rfl) (fun _ _ _ h => h) hS2.out (by kernel_rfl) (fun w' hS' => by obtain ⟨⟨h0, h1⟩, -⟩ := hS'.1.two; go_simp) ?_
  refine T_take (i := 9) (v := .pointer (some ⟨w.heap.size, 0, none⟩)) rfl (by kernel_rfl) (by kernel_rfl) (by kernel_rfl) (by kernel_rfl) (fun _ _ _ h => h) hS2.out (by kernel_rfl) (fun w' hS' => by obtain ⟨⟨h0, h1⟩, -⟩ := hS'.1.two; go_simp) ?_
  refine T_take (i := 10) (v := u) rfl (by kernel_rfl) (by kernel_rfl) (by kernel_rfl) (by kernel_rfl) (fun _ _ _ h => h) hS2.out (by kernel_rfl) (fun w' hS' => by obtain ⟨⟨h0, h1⟩, -⟩ := hS'.1.two; go_simp) ?_
  refine T_take (i := 12) (v := .pointer (some ⟨w.heap.size, 1, none⟩)) rfl (by kernel_rfl) (by kernel_rfl) (by kernel_rfl) (by kernel_rfl) (fun _ _ _ h => h) hS2.out (by kernel_rfl) (fun w' hS' => by obtain ⟨⟨h0, h1⟩, -⟩ := hS'.1.two; go_simp) ?_
  refine T_take (i := 13) (v := t) rfl (by kernel_rfl) (by kernel_rfl) (by kernel_rfl) (by kernel_rfl) (fun _ _ _ h => h) hS2.out (by kernel_rfl) (fun w' hS' => by obtain ⟨⟨h0, h1⟩, -⟩ := hS'.1.two; go_simp) ?_
  refine T_step (i := 11) rfl (by kernel_rfl) rfl (by kernel_rfl) ?_
  intro K hK
  go_simp
  refine (i_numP (ptOf c.1) u _ (by rw [R1.out.2.2.2.2]; exact HS.out.below hS2.out.2)).mono ?_
  rintro e' wT3 ⟨rfl, hb3⟩
  have hS3 := Lib.hid (show (fun (w' : World) => Bk w' w.heap.size #[u, t] 26 ∧ Below w.heap.size w w') wT3 from ⟨hS2.out.1.below hb3, hS2.out.2.trans (hb3.mono hS2.out.2.size)⟩)
  refine hK.out _ _ hS3.out ?_
  clear hK K
  refine T_step (i := 14) rfl (by kernel_rfl) rfl (by kernel_rfl) ?_
  intro K hK
  go_simp
  refine (i_numP (ptOf c.2) t _ (by rw [R2.out.2.2.2.2]; exact HT.out.below hS3.out.2)).mono ?_
  rintro e' wT4 ⟨rfl, hb4⟩
  have hS4 := Lib.hid (show (fun (w' : World) => Bk w' w.heap.size #[u, t] 26 ∧ Below w.heap.size w w') wT4 from ⟨hS3.out.1.below hb4, hS3.out.2.trans (hb4.mono hS3.out.2.size)⟩)
  refine hK.out _ _ hS4.out ?_
  clear hK K
  refine T_step (i := 15) rfl (by kernel_rfl) rfl (by kernel_rfl) ?_
  intro K hK
  go_simp
  refine (i_pdet (ptOf c.1) (ptOf c.2) R1.out.2.2.1.bd4 R2.out.2.2.1.bd4 _).mono ?_
  rintro e' wT5 ⟨rfl, hb5⟩
  rw [show (ptOf c.1).1 * (ptOf c.2).2 - (ptOf c.1).2 * (ptOf c.2).1 = d from HD.out]
  have hS5 := Lib.hid (show (fun (w' : World) => Bk w' w.heap.size #[u, t] 26 ∧ Below w.heap.size w w') wT5 from ⟨hS4.out.1.below hb5, hS4.out.2.trans (hb5.mono hS4.out.2.size)⟩)
  refine hK.out _ _ hS5.out ?_
  clear hK K
  refine T_take (i := 16) (v := .bool (decide (0 < d))) rfl (by kernel_rfl) (by kernel_rfl) (by kernel_rfl) (by kernel_rfl) (fun _ _ _ h => h) hS5.out (by kernel_rfl) (fun w' hS' => by obtain ⟨⟨h0, h1⟩, -⟩ := hS'.1.two; go_simp) ?_
  refine T_take (i := 17) (v := .bool (decide (0 < d))) rfl (by kernel_rfl) (by kernel_rfl) (by kernel_rfl) (by kernel_rfl) (fun _ _ _ h => h) hS5.out (by kernel_rfl) (fun w' hS' => by obtain ⟨⟨h0, h1⟩, -⟩ := hS'.1.two; go_simp) ?_
  refine T_last (i := 18) rfl (by kernel_rfl) (by kernel_rfl) rfl (by kernel_rfl) ?_
  go_simp
  have HB := Lib.hid hS5.out.2
  clear hS0 hS1 hS2 hS3 hS4 hS5
  go_wp2
  go_ret
  exact ⟨ret_bool E.out.symm, HB.out⟩

set_option maxRecDepth 100000 in
set_option maxHeartbeats 1600000 in
theorem i_cindex (c : Cn) (v : Value) (w : World) (hv : Cv w v c) :
    Calls Try.prog 27 #[v] w (Quiet w (.int .i64 (cindexR c))) := by
  have HC := Lib.hid hv
  obtain ⟨u, t, rfl, hs, ht⟩ := hv
  have HS := Lib.hid hs
  have HT := Lib.hid ht
  have K := Lib.hid (Bk.new w #[u, t] 26)
  have B0 := Lib.hid (below1 w (.cells #[u, t] 26))
  clear hs ht
  obtain ⟨⟨l0, l1⟩, -⟩ := K.out.two
  go_enter Try.func27, Try.ntmps27
  go_wp2_with fail
  refine (i_cone c _ _ (HC.out.below B0.out)).mono ?_
  rintro e w1 ⟨rfl, hb⟩
  have K1 := Lib.hid (K.out.below hb)
  have B1 := Lib.hid (B0.out.trans (hb.mono B0.out.size))
  clear hb l0 l1
  cases h1 : coneR c
  · have E := Lib.hid (show cindexR c = 0 by unfold cindexR; rw [h1]; rfl)
    clear h1
    go_wp2_with fail
    go_ret
    exact ⟨ret_int E.out.symm, B1.out⟩
  have RR := Lib.hid (coneR_t h1)
  have R1 := Lib.hid (rayR_t RR.out.1)
  have R2 := Lib.hid (rayR_t RR.out.2.1)
  have E := Lib.hid (show cindexR c = crP (ptOf c.1) (ptOf c.2) by unfold cindexR; rw [h1]; rfl)
  clear h1
  obtain ⟨d, hd⟩ : ∃ d, crP (ptOf c.1) (ptOf c.2) = d := ⟨_, rfl⟩
  have HD := Lib.hid hd
  rw [hd] at E
  clear hd
  go_wp2_with fail
  refine T_begin (z := fun k => 6 < k) (S := fun (w' : World) => Bk w' w.heap.size #[u, t] 26 ∧ Below w.heap.size w w') (by kernel_rfl) ?_
  show wpAnyT _ _ _ _ _ _ 8 _ _ _
  have hS0 := Lib.hid (show (fun (w' : World) => Bk w' w.heap.size #[u, t] 26 ∧ Below w.heap.size w w') (w1.drew) from ⟨K1.out, B1.out.drew⟩)
  refine T_take (i := 0) (v := .pointer (some ⟨w.heap.size, 0, none⟩)) rfl (by kernel_rfl) (by kernel_rfl) (by kernel_rfl) (by kernel_rfl) (fun _ _ _ h => h) hS0.out (by kernel_rfl) (fun w' hS' => by obtain ⟨⟨h0, h1⟩, -⟩ := hS'.1.two; go_simp) ?_
  refine T_take (i := 1) (v := u) rfl (by kernel_rfl) (by kernel_rfl) (by kernel_rfl) (by kernel_rfl) (fun _ _ _ h => h) hS0.out (by kernel_rfl) (fun w' hS' => by obtain ⟨⟨h0, h1⟩, -⟩ := hS'.1.two; go_simp) ?_
  refine T_take (i := 3) (v := .pointer (some ⟨w.heap.size, 1, none⟩)) rfl (by kernel_rfl) (by kernel_rfl) (by kernel_rfl) (by kernel_rfl) (fun _ _ _ h => h) hS0.out (by kernel_rfl) (fun w' hS' => by obtain ⟨⟨h0, h1⟩, -⟩ := hS'.1.two; go_simp) ?_
  refine T_take (i := 4) (v := t) rfl (by kernel_rfl) (by kernel_rfl) (by kernel_rfl) (by kernel_rfl) (fun _ _ _ h => h) hS0.out (by kernel_rfl) (fun w' hS' => by obtain ⟨⟨h0, h1⟩, -⟩ := hS'.1.two; go_simp) ?_
  refine T_step (i := 2) rfl (by kernel_rfl) rfl (by kernel_rfl) ?_
  intro K hK
  go_simp
  refine (i_numP (ptOf c.1) u _ (by rw [R1.out.2.2.2.2]; exact HS.out.below hS0.out.2)).mono ?_
  rintro e' wT1 ⟨rfl, hb1⟩
  have hS1 := Lib.hid (show (fun (w' : World) => Bk w' w.heap.size #[u, t] 26 ∧ Below w.heap.size w w') wT1 from ⟨hS0.out.1.below hb1, hS0.out.2.trans (hb1.mono hS0.out.2.size)⟩)
  refine hK.out _ _ hS1.out ?_
  clear hK K
  refine T_step (i := 5) rfl (by kernel_rfl) rfl (by kernel_rfl) ?_
  intro K hK
  go_simp
  refine (i_numP (ptOf c.2) t _ (by rw [R2.out.2.2.2.2]; exact HT.out.below hS1.out.2)).mono ?_
  rintro e' wT2 ⟨rfl, hb2⟩
  have hS2 := Lib.hid (show (fun (w' : World) => Bk w' w.heap.size #[u, t] 26 ∧ Below w.heap.size w w') wT2 from ⟨hS1.out.1.below hb2, hS1.out.2.trans (hb2.mono hS1.out.2.size)⟩)
  refine hK.out _ _ hS2.out ?_
  clear hK K
  refine T_step (i := 6) rfl (by kernel_rfl) rfl (by kernel_rfl) ?_
  intro K hK
  go_simp
  refine (i_pdet (ptOf c.1) (ptOf c.2) R1.out.2.2.1.bd4 R2.out.2.2.1.bd4 _).mono ?_
  rintro e' wT3 ⟨rfl, hb3⟩
  rw [show (ptOf c.1).1 * (ptOf c.2).2 - (ptOf c.1).2 * (ptOf c.2).1 = d from HD.out]
  have hS3 := Lib.hid (show (fun (w' : World) => Bk w' w.heap.size #[u, t] 26 ∧ Below w.heap.size w w') wT3 from ⟨hS2.out.1.below hb3, hS2.out.2.trans (hb3.mono hS2.out.2.size)⟩)
  refine hK.out _ _ hS3.out ?_
  clear hK K
  refine T_last (i := 7) rfl (by kernel_rfl) (by kernel_rfl) rfl (by kernel_rfl) ?_
  go_simp
  have HB := Lib.hid hS3.out.2
  clear hS0 hS1 hS2 hS3
  go_wp2
  go_ret
  exact ⟨ret_int E.out.symm, HB.out⟩

theorem inc_f1 {c : Cn} {x : List Int} (h : coneR c = false) : inconeR c x = false := by unfold inconeR; rw [h]; rfl
theorem inc_f2 {c : Cn} {x : List Int} (h : (isV x && decide (x.length = 2)) = false) : inconeR c x = false := by unfold inconeR; rw [h]; simp
theorem inc_e {c : Cn} {x : List Int} (h : coneR c = true) (h2 : (isV x && decide (x.length = 2)) = true) : inconeR c x = (decide (0 ≤ crP (ptOf c.1) (ptOf x)) && decide (0 ≤ crP (ptOf x) (ptOf c.2))) := by unfold inconeR; rw [h, h2]; rfl
theorem plane_pt {x : List Int} (h : (isV x && decide (x.length = 2)) = true) : rowOf (ptOf x) = x ∧ BdP 4000 (ptOf x) := by
  rw [Bool.and_eq_true] at h
  have hs := (isV_t h.1).2.2
  match x, of_decide_eq_true h.2 with
  | [a, b], _ =>
    have h1 := small_get hs 0 (by simp)
    have h2 := small_get hs 1 (by simp)
    simp only [List.getElem_cons_zero, List.getElem_cons_succ] at h1 h2
    exact ⟨rfl, ⟨by show -4000 ≤ a; omega, by show a ≤ 4000; omega⟩, by show -4000 ≤ b; omega, by show b ≤ 4000; omega⟩
set_option maxRecDepth 100000 in
set_option maxHeartbeats 1600000 in
theorem i_incone (c : Cn) (x : List Int) (v a : Value) (w : World) (hv : Cv w v c) (hx : Sl w a (intVals x)) :
    Calls Try.prog 24 #[v, a] w (Quiet w (.bool (inconeR c x))) := by
  have HC := Lib.hid hv
  have HX := Lib.hid hx
  obtain ⟨a, ac, rfl, am, _⟩ := hx.shape
  rw [intVals_len] at am HX ⊢
  unfold maxLen at am
  clear hx
  obtain ⟨u, t, rfl, hs, ht⟩ := hv
  have HS := Lib.hid hs
  have HT := Lib.hid ht
  have K := Lib.hid (Bk.new w #[u, t] 26)
  have B0 := Lib.hid (below1 w (.cells #[u, t] 26))
  clear hs ht
  obtain ⟨⟨l0, l1⟩, -⟩ := K.out.two
  go_enter Try.func24, Try.ntmps24
  go_wp2_with fail
  refine (i_cone c _ _ (HC.out.below B0.out)).mono ?_
  rintro e w1 ⟨rfl, hb⟩
  have K1 := Lib.hid (K.out.below hb)
  have B1 := Lib.hid (B0.out.trans (hb.mono B0.out.size))
  clear hb l0 l1
  cases h1 : coneR c
  · have E := Lib.hid (inc_f1 (x := x) h1)
    clear h1
    go_wp2_with fail
    go_ret
    exact ⟨ret_bool E.out.symm, B1.out⟩
  have C1 := Lib.hid h1
  have RR := Lib.hid (coneR_t h1)
  have R1 := Lib.hid (rayR_t RR.out.1)
  have R2 := Lib.hid (rayR_t RR.out.2.1)
  clear h1
  go_wp2_with fail
  refine (i_plane x _ _ (HX.out.below B1.out)).mono ?_
  rintro e w2 ⟨rfl, hb⟩
  have K2 := Lib.hid (K1.out.below hb)
  have B2 := Lib.hid (B1.out.trans (hb.mono B1.out.size))
  clear hb
  cases h2 : (isV x && decide (x.length = 2))
  · have E := Lib.hid (inc_f2 (c := c) h2)
    clear h2
    go_wp2_with fail
    go_ret
    exact ⟨ret_bool E.out.symm, B2.out⟩
  have PX := Lib.hid (plane_pt h2)
  have E := Lib.hid (inc_e C1.out h2)
  clear h2
  obtain ⟨d1, hd⟩ : ∃ d, crP (ptOf c.1) (ptOf x) = d := ⟨_, rfl⟩
  have HD1 := Lib.hid hd
  rw [hd] at E
  clear hd
  obtain ⟨d2, hd⟩ : ∃ d, crP (ptOf x) (ptOf c.2) = d := ⟨_, rfl⟩
  have HD2 := Lib.hid hd
  rw [hd] at E
  clear hd
  go_wp2_with fail
  by_cases h3 : 0 ≤ d1
  case neg =>
    have E2 := Lib.hid (show inconeR c x = false by rw [E.out, decide_eq_false h3]; rfl)
    refine T_begin (z := fun k => 15 < k) (S := fun (w' : World) => Bk w' w.heap.size #[u, t] 26 ∧ Below w.heap.size w w') (by kernel_rfl) ?_
    show wpAnyT _ _ _ _ _ _ 17 _ _ _
    have hS0 := Lib.hid (show (fun (w' : World) => Bk w' w.heap.size #[u, t] 26 ∧ Below w.heap.size w w') (w2.drew) from ⟨K2.out, B2.out.drew⟩)
    refine T_take (i := 0) (v := .pointer (some ⟨w.heap.size, 0, none⟩)) rfl (by kernel_rfl) (by kernel_rfl) (by kernel_rfl) (by kernel_rfl) (fun _ _ _ h => h) hS0.out (by kernel_rfl) (fun w' hS' => by obtain ⟨⟨h0, h1⟩, -⟩ := hS'.1.two; go_simp) ?_
    refine T_take (i := 1) (v := u) rfl (by kernel_rfl) (by kernel_rfl) (by kernel_rfl) (by kernel_rfl) (fun _ _ _ h => h) hS0.out (by kernel_rfl) (fun w' hS' => by obtain ⟨⟨h0, h1⟩, -⟩ := hS'.1.two; go_simp) ?_
    refine T_take (i := 3) (v := .slice a x.length ac) rfl (by kernel_rfl) (by kernel_rfl) (by kernel_rfl) (by kernel_rfl) (fun _ _ _ h => h) hS0.out (by kernel_rfl) (fun w' hS' => by obtain ⟨⟨h0, h1⟩, -⟩ := hS'.1.two; go_simp) ?_
    refine T_step (i := 2) rfl (by kernel_rfl) rfl (by kernel_rfl) ?_
    intro K hK
    go_simp
    refine (i_numP (ptOf c.1) u _ (by rw [R1.out.2.2.2.2]; exact HS.out.below hS0.out.2)).mono ?_
    rintro e' wT1 ⟨rfl, hb1⟩
    have hS1 := Lib.hid (show (fun (w' : World) => Bk w' w.heap.size #[u, t] 26 ∧ Below w.heap.size w w') wT1 from ⟨hS0.out.1.below hb1, hS0.out.2.trans (hb1.mono hS0.out.2.size)⟩)
    refine hK.out _ _ hS1.out ?_
    clear hK K
    refine T_step (i := 4) rfl (by kernel_rfl) rfl (by kernel_rfl) ?_
    intro K hK
    go_simp
    refine (i_numP (ptOf x) (.slice a x.length ac) _ (by rw [PX.out.1]; exact HX.out.below hS1.out.2)).mono ?_
    rintro e' wT2 ⟨rfl, hb2⟩
    have hS2 := Lib.hid (show (fun (w' : World) => Bk w' w.heap.size #[u, t] 26 ∧ Below w.heap.size w w') wT2 from ⟨hS1.out.1.below hb2, hS1.out.2.trans (hb2.mono hS1.out.2.size)⟩)
    refine hK.out _ _ hS2.out ?_
    clear hK K
    refine T_step (i := 5) rfl (by kernel_rfl) rfl (by kernel_rfl) ?_
    intro K hK
    go_simp
    refine (i_pdet (ptOf c.1) (ptOf x) R1.out.2.2.1.bd4 PX.out.2 _).mono ?_
    rintro e' wT3 ⟨rfl, hb3⟩
    rw [show (ptOf c.1).1 * (ptOf x).2 - (ptOf c.1).2 * (ptOf x).1 = d1 from HD1.out]
    have hS3 := Lib.hid (show (fun (w' : World) => Bk w' w.heap.size #[u, t] 26 ∧ Below w.heap.size w w') wT3 from ⟨hS2.out.1.below hb3, hS2.out.2.trans (hb3.mono hS2.out.2.size)⟩)
    refine hK.out _ _ hS3.out ?_
    clear hK K
    refine T_take (i := 6) (v := .bool false) rfl (by kernel_rfl) (by kernel_rfl) (by kernel_rfl) (by kernel_rfl) (fun _ _ _ h => h) hS3.out (by kernel_rfl) (fun w' hS' => by obtain ⟨⟨h0, h1⟩, -⟩ := hS'.1.two; go_simp) ?_
    refine T_take (i := 7) (v := .bool false) rfl (by kernel_rfl) (by kernel_rfl) (by kernel_rfl) (by kernel_rfl) (fun _ _ _ h => h) hS3.out (by kernel_rfl) (fun w' hS' => by obtain ⟨⟨h0, h1⟩, -⟩ := hS'.1.two; go_simp) ?_
    refine T_pass (i := 8) rfl (by kernel_rfl) (by kernel_rfl) (by kernel_rfl) (by kernel_rfl) (fun _ _ _ h => h) hS3.out (by kernel_rfl) ?_
    refine T_pass (i := 9) rfl (by kernel_rfl) (by kernel_rfl) (by kernel_rfl) (by kernel_rfl) (fun _ _ _ h => h) hS3.out (by kernel_rfl) ?_
    refine T_pass (i := 10) rfl (by kernel_rfl) (by kernel_rfl) (by kernel_rfl) (by kernel_rfl) (fun _ _ _ h => h) hS3.out (by kernel_rfl) ?_
    refine T_pass (i := 11) rfl (by kernel_rfl) (by kernel_rfl) (by kernel_rfl) (by kernel_rfl) (fun _ _ _ h => h) hS3.out (by kernel_rfl) ?_
    refine T_pass (i := 12) rfl (by kernel_rfl) (by kernel_rfl) (by kernel_rfl) (by kernel_rfl) (fun _ _ _ h => h) hS3.out (by kernel_rfl) ?_
    refine T_pass (i := 13) rfl (by kernel_rfl) (by kernel_rfl) (by kernel_rfl) (by kernel_rfl) (fun _ _ _ h => h) hS3.out (by kernel_rfl) ?_
    refine T_pass (i := 14) rfl (by kernel_rfl) (by kernel_rfl) (by kernel_rfl) (by kernel_rfl) (fun _ _ _ h => h) hS3.out (by kernel_rfl) ?_
    refine T_take (i := 15) (v := .bool false) rfl (by kernel_rfl) (by kernel_rfl) (by kernel_rfl) (by kernel_rfl) (fun _ _ _ h => h) hS3.out (by kernel_rfl) (fun w' hS' => by obtain ⟨⟨h0, h1⟩, -⟩ := hS'.1.two; go_simp) ?_
    refine T_last (i := 16) rfl (by kernel_rfl) (by kernel_rfl) rfl (by kernel_rfl) ?_
    go_simp
    have HB := Lib.hid hS3.out.2
    clear hS0 hS1 hS2 hS3
    go_wp2
    go_ret
    exact ⟨ret_bool E2.out.symm, HB.out⟩
  have E2 := Lib.hid (show inconeR c x = decide (0 ≤ d2) by rw [E.out, decide_eq_true h3]; rfl)
  refine T_begin (z := fun k => 15 < k) (S := fun (w' : World) => Bk w' w.heap.size #[u, t] 26 ∧ Below w.heap.size w w') (by kernel_rfl) ?_
  show wpAnyT _ _ _ _ _ _ 17 _ _ _
  have hS0 := Lib.hid (show (fun (w' : World) => Bk w' w.heap.size #[u, t] 26 ∧ Below w.heap.size w w') (w2.drew) from ⟨K2.out, B2.out.drew⟩)
  refine T_take (i := 0) (v := .pointer (some ⟨w.heap.size, 0, none⟩)) rfl (by kernel_rfl) (by kernel_rfl) (by kernel_rfl) (by kernel_rfl) (fun _ _ _ h => h) hS0.out (by kernel_rfl) (fun w' hS' => by obtain ⟨⟨h0, h1⟩, -⟩ := hS'.1.two; go_simp) ?_
  refine T_take (i := 1) (v := u) rfl (by kernel_rfl) (by kernel_rfl) (by kernel_rfl) (by kernel_rfl) (fun _ _ _ h => h) hS0.out (by kernel_rfl) (fun w' hS' => by obtain ⟨⟨h0, h1⟩, -⟩ := hS'.1.two; go_simp) ?_
  refine T_take (i := 3) (v := .slice a x.length ac) rfl (by kernel_rfl) (by kernel_rfl) (by kernel_rfl) (by kernel_rfl) (fun _ _ _ h => h) hS0.out (by kernel_rfl) (fun w' hS' => by obtain ⟨⟨h0, h1⟩, -⟩ := hS'.1.two; go_simp) ?_
  refine T_step (i := 2) rfl (by kernel_rfl) rfl (by kernel_rfl) ?_
  intro K hK
  go_simp
  refine (i_numP (ptOf c.1) u _ (by rw [R1.out.2.2.2.2]; exact HS.out.below hS0.out.2)).mono ?_
  rintro e' wT1 ⟨rfl, hb1⟩
  have hS1 := Lib.hid (show (fun (w' : World) => Bk w' w.heap.size #[u, t] 26 ∧ Below w.heap.size w w') wT1 from ⟨hS0.out.1.below hb1, hS0.out.2.trans (hb1.mono hS0.out.2.size)⟩)
  refine hK.out _ _ hS1.out ?_
  clear hK K
  refine T_step (i := 4) rfl (by kernel_rfl) rfl (by kernel_rfl) ?_
  intro K hK
  go_simp
  refine (i_numP (ptOf x) (.slice a x.length ac) _ (by rw [PX.out.1]; exact HX.out.below hS1.out.2)).mono ?_
  rintro e' wT2 ⟨rfl, hb2⟩
  have hS2 := Lib.hid (show (fun (w' : World) => Bk w' w.heap.size #[u, t] 26 ∧ Below w.heap.size w w') wT2 from ⟨hS1.out.1.below hb2, hS1.out.2.trans (hb2.mono hS1.out.2.size)⟩)
  refine hK.out _ _ hS2.out ?_
  clear hK K
  refine T_step (i := 5) rfl (by kernel_rfl) rfl (by kernel_rfl) ?_
  intro K hK
  go_simp
  refine (i_pdet (ptOf c.1) (ptOf x) R1.out.2.2.1.bd4 PX.out.2 _).mono ?_
  rintro e' wT3 ⟨rfl, hb3⟩
  rw [show (ptOf c.1).1 * (ptOf x).2 - (ptOf c.1).2 * (ptOf x).1 = d1 from HD1.out]
  have hS3 := Lib.hid (show (fun (w' : World) => Bk w' w.heap.size #[u, t] 26 ∧ Below w.heap.size w w') wT3 from ⟨hS2.out.1.below hb3, hS2.out.2.trans (hb3.mono hS2.out.2.size)⟩)
  refine hK.out _ _ hS3.out ?_
  clear hK K
  refine T_take (i := 6) (v := .bool true) rfl (by kernel_rfl) (by kernel_rfl) (by kernel_rfl) (by kernel_rfl) (fun _ _ _ h => h) hS3.out (by kernel_rfl) (fun w' hS' => by obtain ⟨⟨h0, h1⟩, -⟩ := hS'.1.two; go_simp) ?_
  refine T_take (i := 7) (v := .bool true) rfl (by kernel_rfl) (by kernel_rfl) (by kernel_rfl) (by kernel_rfl) (fun _ _ _ h => h) hS3.out (by kernel_rfl) (fun w' hS' => by obtain ⟨⟨h0, h1⟩, -⟩ := hS'.1.two; go_simp) ?_
  refine T_take (i := 8) (v := .slice a x.length ac) rfl (by kernel_rfl) (by kernel_rfl) (by kernel_rfl) (by kernel_rfl) (fun _ _ _ h => h) hS3.out (by kernel_rfl) (fun w' hS' => by obtain ⟨⟨h0, h1⟩, -⟩ := hS'.1.two; go_simp) ?_
  refine T_take (i := 10) (v := .pointer (some ⟨w.heap.size, 1, none⟩)) rfl (by kernel_rfl) (by kernel_rfl) (by kernel_rfl) (by kernel_rfl) (fun _ _ _ h => h) hS3.out (by kernel_rfl) (fun w' hS' => by obtain ⟨⟨h0, h1⟩, -⟩ := hS'.1.two; go_simp) ?_
  refine T_take (i := 11) (v := t) rfl (by kernel_rfl) (by kernel_rfl) (by kernel_rfl) (by kernel_rfl) (fun _ _ _ h => h) hS3.out (by kernel_rfl) (fun w' hS' => by obtain ⟨⟨h0, h1⟩, -⟩ := hS'.1.two; go_simp) ?_
  refine T_step (i := 9) rfl (by kernel_rfl) rfl (by kernel_rfl) ?_
  intro K hK
  go_simp
  refine (i_numP (ptOf x) (.slice a x.length ac) _ (by rw [PX.out.1]; exact HX.out.below hS3.out.2)).mono ?_
  rintro e' wT4 ⟨rfl, hb4⟩
  have hS4 := Lib.hid (show (fun (w' : World) => Bk w' w.heap.size #[u, t] 26 ∧ Below w.heap.size w w') wT4 from ⟨hS3.out.1.below hb4, hS3.out.2.trans (hb4.mono hS3.out.2.size)⟩)
  refine hK.out _ _ hS4.out ?_
  clear hK K
  refine T_step (i := 12) rfl (by kernel_rfl) rfl (by kernel_rfl) ?_
  intro K hK
  go_simp
  refine (i_numP (ptOf c.2) t _ (by rw [R2.out.2.2.2.2]; exact HT.out.below hS4.out.2)).mono ?_
  rintro e' wT5 ⟨rfl, hb5⟩
  have hS5 := Lib.hid (show (fun (w' : World) => Bk w' w.heap.size #[u, t] 26 ∧ Below w.heap.size w w') wT5 from ⟨hS4.out.1.below hb5, hS4.out.2.trans (hb5.mono hS4.out.2.size)⟩)
  refine hK.out _ _ hS5.out ?_
  clear hK K
  refine T_step (i := 13) rfl (by kernel_rfl) rfl (by kernel_rfl) ?_
  intro K hK
  go_simp
  refine (i_pdet (ptOf x) (ptOf c.2) PX.out.2 R2.out.2.2.1.bd4 _).mono ?_
  rintro e' wT6 ⟨rfl, hb6⟩
  rw [show (ptOf x).1 * (ptOf c.2).2 - (ptOf x).2 * (ptOf c.2).1 = d2 from HD2.out]
  have hS6 := Lib.hid (show (fun (w' : World) => Bk w' w.heap.size #[u, t] 26 ∧ Below w.heap.size w w') wT6 from ⟨hS5.out.1.below hb6, hS5.out.2.trans (hb6.mono hS5.out.2.size)⟩)
  refine hK.out _ _ hS6.out ?_
  clear hK K
  refine T_take (i := 14) (v := .bool (decide (0 ≤ d2))) rfl (by kernel_rfl) (by kernel_rfl) (by kernel_rfl) (by kernel_rfl) (fun _ _ _ h => h) hS6.out (by kernel_rfl) (fun w' hS' => by obtain ⟨⟨h0, h1⟩, -⟩ := hS'.1.two; go_simp) ?_
  refine T_take (i := 15) (v := .bool (decide (0 ≤ d2))) rfl (by kernel_rfl) (by kernel_rfl) (by kernel_rfl) (by kernel_rfl) (fun _ _ _ h => h) hS6.out (by kernel_rfl) (fun w' hS' => by obtain ⟨⟨h0, h1⟩, -⟩ := hS'.1.two; go_simp) ?_
  refine T_last (i := 16) rfl (by kernel_rfl) (by kernel_rfl) rfl (by kernel_rfl) ?_
  go_simp
  have HB := Lib.hid hS6.out.2
  clear hS0 hS1 hS2 hS3 hS4 hS5 hS6
  go_wp2
  go_ret
  exact ⟨ret_bool E2.out.symm, HB.out⟩

end Go.Proofs.Ytoekgcafhcamjaa
