/- The model's matrices: DetOf, IsUnimodular, ApplyMatrix. -/
import Derived.Test.YteenheidomfpkaaDoorMatS
import Derived.Deep.RegionHeld3
namespace Go.Proofs.YteenheidomfpkaaDoor
open Go.RowKit Go.Lib

set_option maxRecDepth 100000 in
set_option maxHeartbeats 800000 in
theorem s_detof (m : List (List Int)) (v : Value) (w : World) (hv : Rw w v m) :
    Calls Tryd.prog 26 #[v] w (Quiet w (.int .i64 (detR m))) := by
  have HV := Lib.hid hv
  have HC := Lib.hid (s_ismat m v w hv)
  clear hv
  by_cases h : isM m = true
  · have E := Lib.hid h
    have HR := Lib.hid (show detR m = detL m from if_pos h)
    have HT := Lib.hid (isM_t h)
    clear h
    go_enter Tryd.func26, Tryd.ntmps26
    go_wp2_with fail
    refine HC.out.mono ?_
    rintro e w1 ⟨rfl, hb1⟩
    rw [E.out]
    have B1 := Lib.hid hb1
    clear hb1
    go_wp2_with fail
    refine (s_det m.length 100 m HT.out.1 HT.out.2.1 (by omega) (by omega) (isM_sq E.out) _ _ (HV.out.below B1.out)).mono ?_
    rintro e w2 ⟨rfl, hb2⟩
    have B2 := Lib.hid (B1.out.trans (hb2.mono B1.out.size))
    clear hb2
    go_wp2_with fail
    go_ret
    exact ⟨ret_int HR.out.symm, B2.out⟩
  · have E := Lib.hid (bool_f h)
    have HR := Lib.hid (show detR m = 0 from if_neg h)
    clear h
    go_enter Tryd.func26, Tryd.ntmps26
    go_wp2_with fail
    refine HC.out.mono ?_
    rintro e w1 ⟨rfl, hb1⟩
    rw [E.out]
    go_wp2_with fail
    go_ret
    exact ⟨ret_int HR.out.symm, hb1⟩
theorem detR_bd (m : List (List Int)) : -6000000000000000 ≤ detR m ∧ detR m ≤ 6000000000000000 := by
  unfold detR
  split
  · rename_i h
    have ht := isM_t h
    exact det_bd ht.1 ht.2.1 ((isM_sq h).mono (by omega))
  · omega
set_option maxRecDepth 100000 in
set_option maxHeartbeats 800000 in
theorem s_isuni (m : List (List Int)) (v : Value) (w : World) (hv : Rw w v m) :
    Calls Tryd.prog 12 #[v] w (Quiet w (.bool (uniR m))) := by
  have HC := Lib.hid (s_detof m v w hv)
  have hb := detR_bd m
  clear hv
  by_cases h : (detR m).natAbs = 1
  · have HR := Lib.hid (show uniR m = true from decide_eq_true h)
    have hq : (((detR m).natAbs : Int) == 1) = true := by rw [beq_iff_eq]; omega
    clear h
    go_enter Tryd.func12, Tryd.ntmps12
    go_wp2_with fail
    refine HC.out.mono ?_
    rintro e w1 ⟨rfl, hb1⟩
    have B1 := Lib.hid hb1
    clear hb1
    go_wp2_with fail
    refine (s_abs _ (by omega) (by omega) _).mono ?_
    rintro e w2 ⟨rfl, rfl⟩
    go_wp2_with fail
    go_ret
    exact ⟨ret_bool HR.out.symm, B1.out⟩
  · have HR := Lib.hid (show uniR m = false from decide_eq_false h)
    have hq : (((detR m).natAbs : Int) == 1) = false := by rw [beq_eq_false_iff_ne]; omega
    clear h
    go_enter Tryd.func12, Tryd.ntmps12
    go_wp2_with fail
    refine HC.out.mono ?_
    rintro e w1 ⟨rfl, hb1⟩
    have B1 := Lib.hid hb1
    clear hb1
    go_wp2_with fail
    refine (s_abs _ (by omega) (by omega) _).mono ?_
    rintro e w2 ⟨rfl, rfl⟩
    go_wp2_with fail
    go_ret
    exact ⟨ret_bool HR.out.symm, B1.out⟩

end Go.Proofs.YteenheidomfpkaaDoor
