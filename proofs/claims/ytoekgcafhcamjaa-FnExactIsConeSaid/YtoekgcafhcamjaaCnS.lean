/- The model's cones: what one is, its index, which points it has. -/
import Derived.Test.YtoekgcafhcamjaaCnV
import Derived.Test.YtoekgcafhcamjaaPgT
import Derived.Test.YtoekgcafhcamjaaVecT
namespace Go.Proofs.Ytoekgcafhcamjaa
open Go Go.RowKit Go.Lib

set_option maxRecDepth 100000 in
set_option maxHeartbeats 400000 in
theorem s_ray (v : List Int) (a : Value) (w : World) (hv : Sl w a (intVals v)) :
    Calls Try.prog 82 #[a] w (Quiet w (.bool (rayR v))) := by
  have HV := Lib.hid hv
  obtain ⟨a, c, rfl, hm, _⟩ := hv.shape
  rw [intVals_len] at hm HV ⊢
  unfold maxLen at hm
  clear hv
  by_cases h2 : v.length = 2
  · have i2 : (v.length : Int) = 2 := by omega
    have E := Lib.hid (show rayR v = (small v 30 && decide (allG v = 1)) by unfold rayR; rw [decide_eq_true h2]; rfl)
    clear h2
    go_enter Try.func82, Try.ntmps82
    go_wp2_with fail
    refine (s_small v 30 (by omega) (by omega) _ _ HV.out).mono ?_
    rintro e w1 ⟨rfl, hb1⟩
    have B1 := Lib.hid hb1
    clear hb1
    cases hs : small v 30
    · have E2 := Lib.hid (show rayR v = false by rw [E.out, hs]; rfl)
      clear hs
      go_wp2_with fail
      go_ret
      exact ⟨ret_bool E2.out.symm, B1.out⟩
    · have BD := Lib.hid (small_bd hs)
      have E2 := Lib.hid (show rayR v = decide (allG v = 1) by rw [E.out, hs]; rfl)
      clear hs
      go_wp2_with fail
      refine (s_all v 30 (by omega) (by omega) BD.out _ _ (HV.out.below B1.out)).mono ?_
      rintro e w2 ⟨rfl, hb2⟩
      have B2 := Lib.hid (B1.out.trans (hb2.mono B1.out.size))
      clear hb2
      go_wp2_with fail
      go_ret
      exact ⟨ret_bool (by rw [E2.out]; rfl), B2.out⟩
  · have i2 : ¬ (v.length : Int) = 2 := by omega
    have E := Lib.hid (show rayR v = false by unfold rayR; rw [decide_eq_false h2]; rfl)
    clear h2
    go_enter Try.func82, Try.ntmps82
    go_wp2_with fail
    go_ret
    exact ⟨ret_bool E.out.symm, Below.refl _ _⟩

theorem Cn30.wide {p : P2} (h : Cn30 p) : (-4000 ≤ p.1 ∧ p.1 ≤ 4000) ∧ -4000 ≤ p.2 ∧ p.2 ≤ 4000 := by unfold Cn30 at h; omega
theorem coneR_f1 {c : Cn} (h : rayR c.1 = false) : coneR c = false := by unfold coneR; rw [h]; rfl
theorem coneR_f2 {c : Cn} (h1 : rayR c.1 = true) (h : rayR c.2 = false) : coneR c = false := by unfold coneR; rw [h1, h]; rfl
theorem coneR_e {c : Cn} (h1 : rayR c.1 = true) (h : rayR c.2 = true) : coneR c = decide (0 < crP (ptOf c.1) (ptOf c.2)) := by unfold coneR; rw [h1, h]; rfl
set_option maxRecDepth 100000 in
set_option maxHeartbeats 800000 in
theorem s_cone (c : Cn) (v : Value) (w : World) (hv : Cv w v c) :
    Calls Try.prog 30 #[v] w (Quiet w (.bool (coneR c))) := by
  obtain ⟨u, t, rfl, hs, ht⟩ := hv
  have HS := Lib.hid hs
  have HT := Lib.hid ht
  have K := Lib.hid (Bk.new w #[u, t] 26)
  have B0 := Lib.hid (below1 w (.cells #[u, t] 26))
  clear hs ht
  go_enter Try.func30, Try.ntmps30
  go_wp2_with fail
  refine (s_ray c.1 _ _ (HS.out.below B0.out)).mono ?_
  rintro e w1 ⟨rfl, hb⟩
  have K1 := Lib.hid (K.out.below hb)
  have B1 := Lib.hid (B0.out.trans (hb.mono B0.out.size))
  clear hb
  cases h1 : rayR c.1
  · have E := Lib.hid (coneR_f1 h1)
    clear h1
    go_wp2_with fail
    go_ret
    exact ⟨ret_bool E.out.symm, B1.out⟩
  have H1 := Lib.hid h1
  clear h1
  obtain ⟨⟨_, l1⟩, -⟩ := K1.out.two
  go_wp2_with fail
  refine (s_ray c.2 _ _ (HT.out.below B1.out)).mono ?_
  rintro e w2 ⟨rfl, hb⟩
  have K2 := Lib.hid (K1.out.below hb)
  have B2 := Lib.hid (B1.out.trans (hb.mono B1.out.size))
  clear hb l1
  cases h2 : rayR c.2
  · have E := Lib.hid (coneR_f2 H1.out h2)
    clear h2
    go_wp2_with fail
    go_ret
    exact ⟨ret_bool E.out.symm, B2.out⟩
  have H2 := Lib.hid h2
  have E := Lib.hid (coneR_e H1.out h2)
  clear h2
  have R1 := Lib.hid (rayR_t H1.out)
  have R2 := Lib.hid (rayR_t H2.out)
  obtain ⟨⟨l0, l1⟩, -⟩ := K2.out.two
  go_wp2_with fail
  refine (s_cross (ptOf c.1) (ptOf c.2) R1.out.2.2.1.wide R2.out.2.2.1.wide _ _ _ (by rw [R1.out.2.2.2.2]; exact HS.out.below B2.out) (by rw [R2.out.2.2.2.2]; exact HT.out.below B2.out)).mono ?_
  rintro e w3 ⟨rfl, hb⟩
  have B3 := Lib.hid (B2.out.trans (hb.mono B2.out.size))
  clear hb l0 l1
  go_wp2_with fail
  go_ret
  exact ⟨ret_bool (by rw [E.out]; exact decide_eq_decide.2 (by unfold crP; omega)), B3.out⟩

set_option maxRecDepth 100000 in
set_option maxHeartbeats 800000 in
theorem s_cindex (c : Cn) (v : Value) (w : World) (hv : Cv w v c) :
    Calls Try.prog 28 #[v] w (Quiet w (.int .i64 (cindexR c))) := by
  have HC := Lib.hid hv
  obtain ⟨u, t, rfl, hs, ht⟩ := hv
  have HS := Lib.hid hs
  have HT := Lib.hid ht
  have K := Lib.hid (Bk.new w #[u, t] 26)
  have B0 := Lib.hid (below1 w (.cells #[u, t] 26))
  clear hs ht
  obtain ⟨⟨l0, l1⟩, -⟩ := K.out.two
  go_enter Try.func28, Try.ntmps28
  go_wp2_with fail
  refine (s_cone c _ _ (HC.out.below B0.out)).mono ?_
  rintro e w1 ⟨rfl, hb⟩
  have K1 := Lib.hid (K.out.below hb)
  have B1 := Lib.hid (B0.out.trans (hb.mono B0.out.size))
  clear hb l0 l1
  cases h1 : coneR c
  · have E := Lib.hid (show cindexR c = 0 by unfold cindexR; rw [h1]; rfl)
    clear h1
    go_wp2_with fail
    go_ret
    exact ⟨ret_int E.out.symm, B1.out⟩
  have R := Lib.hid (coneR_t h1)
  have R1 := Lib.hid (rayR_t R.out.1)
  have R2 := Lib.hid (rayR_t R.out.2.1)
  have E := Lib.hid (show cindexR c = crP (ptOf c.1) (ptOf c.2) by unfold cindexR; rw [h1]; rfl)
  clear h1
  obtain ⟨⟨l0, l1⟩, -⟩ := K1.out.two
  go_wp2_with fail
  refine (s_cross (ptOf c.1) (ptOf c.2) R1.out.2.2.1.wide R2.out.2.2.1.wide _ _ _ (by rw [R1.out.2.2.2.2]; exact HS.out.below B1.out) (by rw [R2.out.2.2.2.2]; exact HT.out.below B1.out)).mono ?_
  rintro e w3 ⟨rfl, hb⟩
  have B3 := Lib.hid (B1.out.trans (hb.mono B1.out.size))
  clear hb l0 l1
  go_wp2_with fail
  go_ret
  exact ⟨ret_int (by rw [E.out]; rfl), B3.out⟩

theorem isV_pt {x : List Int} (h : isV x = true) (h2 : x.length = 2) : rowOf (ptOf x) = x ∧ (-1000 ≤ (ptOf x).1 ∧ (ptOf x).1 ≤ 1000) ∧ -1000 ≤ (ptOf x).2 ∧ (ptOf x).2 ≤ 1000 := by
  have hs := (isV_t h).2.2
  match x, h2 with
  | [a, b], _ => exact ⟨rfl, small_get hs 0 (by simp), small_get hs 1 (by simp)⟩
theorem incone_f1 {c : Cn} {x : List Int} (h : coneR c = false) : inconeR c x = false := by unfold inconeR; rw [h]; rfl
theorem incone_f2 {c : Cn} {x : List Int} (h : (isV x && decide (x.length = 2)) = false) : inconeR c x = false := by unfold inconeR; rw [h]; simp
theorem incone_e {c : Cn} {x : List Int} (h : coneR c = true) (h2 : (isV x && decide (x.length = 2)) = true) : inconeR c x = (decide (0 ≤ crP (ptOf c.1) (ptOf x)) && decide (0 ≤ crP (ptOf x) (ptOf c.2))) := by unfold inconeR; rw [h, h2]; rfl
set_option maxRecDepth 100000 in
set_option maxHeartbeats 1600000 in
theorem s_incone (c : Cn) (x : List Int) (v a : Value) (w : World) (hv : Cv w v c) (hx : Sl w a (intVals x)) :
    Calls Try.prog 25 #[v, a] w (Quiet w (.bool (inconeR c x))) := by
  have HC := Lib.hid hv
  have HX := Lib.hid hx
  obtain ⟨u, t, rfl, hs, ht⟩ := hv
  obtain ⟨a, ac, rfl, am, _⟩ := hx.shape
  rw [intVals_len] at am HX ⊢
  unfold maxLen at am
  have HS := Lib.hid hs
  have HT := Lib.hid ht
  have K := Lib.hid (Bk.new w #[u, t] 26)
  have B0 := Lib.hid (below1 w (.cells #[u, t] 26))
  clear hs ht hx
  obtain ⟨⟨l0, l1⟩, -⟩ := K.out.two
  go_enter Try.func25, Try.ntmps25
  go_wp2_with fail
  refine (s_cone c _ _ (HC.out.below B0.out)).mono ?_
  rintro e w1 ⟨rfl, hb⟩
  have K1 := Lib.hid (K.out.below hb)
  have B1 := Lib.hid (B0.out.trans (hb.mono B0.out.size))
  clear hb l0 l1
  cases h1 : coneR c
  · have E := Lib.hid (incone_f1 (x := x) h1)
    clear h1
    go_wp2_with fail
    go_ret
    exact ⟨ret_bool E.out.symm, B1.out⟩
  have C1 := Lib.hid h1
  have R := Lib.hid (coneR_t h1)
  have R1 := Lib.hid (rayR_t R.out.1)
  have R2 := Lib.hid (rayR_t R.out.2.1)
  clear h1
  go_wp2_with fail
  refine (s_isv x _ _ (HX.out.below B1.out)).mono ?_
  rintro e w2 ⟨rfl, hb⟩
  have K2 := Lib.hid (K1.out.below hb)
  have B2 := Lib.hid (B1.out.trans (hb.mono B1.out.size))
  clear hb
  cases h2 : isV x
  · have E := Lib.hid (incone_f2 (c := c) (x := x) (by rw [h2]; rfl))
    clear h2
    go_wp2_with fail
    go_ret
    exact ⟨ret_bool E.out.symm, B2.out⟩
  have V2 := Lib.hid h2
  clear h2
  by_cases h3 : x.length = 2
  case neg =>
    have E := Lib.hid (incone_f2 (c := c) (x := x) (by rw [V2.out, decide_eq_false h3]; rfl))
    have i3 : ((x.length : Int) == 2) = false := by rw [beq_eq_false_iff_ne]; omega
    clear h3
    go_wp2_with fail
    go_ret
    exact ⟨ret_bool E.out.symm, B2.out⟩
  have E := Lib.hid (incone_e (c := c) (x := x) C1.out (by rw [V2.out, decide_eq_true h3]; rfl))
  have PX := Lib.hid (isV_pt V2.out h3)
  have i3 : ((x.length : Int) == 2) = true := by rw [beq_iff_eq]; omega
  have HX2 := Lib.hid (show Sl w2 (.slice a x.length ac) (intVals (rowOf (ptOf x))) by rw [PX.out.1]; exact HX.out.below B2.out)
  obtain ⟨px, hpx⟩ : ∃ px, ptOf x = px := ⟨_, rfl⟩
  rw [hpx] at E PX HX2
  clear h3 hpx
  obtain ⟨⟨l0, l1⟩, -⟩ := K2.out.two
  go_wp2_with fail
  refine (s_cross (ptOf c.1) px R1.out.2.2.1.wide (by have := PX.out.2; omega) _ _ _ (by rw [R1.out.2.2.2.2]; exact HS.out.below B2.out) HX2.out).mono ?_
  rintro e w3 ⟨rfl, hb⟩
  have K3 := Lib.hid (K2.out.below hb)
  have HX3 := Lib.hid (HX2.out.below hb)
  have B3 := Lib.hid (B2.out.trans (hb.mono B2.out.size))
  clear hb l0 l1
  obtain ⟨q, hq⟩ : ∃ q, (ptOf c.1).1 * px.2 - (ptOf c.1).2 * px.1 = q := ⟨_, rfl⟩
  have E3 := Lib.hid (show inconeR c x = (decide (0 ≤ q) && decide (0 ≤ crP px (ptOf c.2))) by rw [E.out, ← hq]; rfl)
  rw [hq]
  clear hq i3
  by_cases h4 : 0 ≤ q
  case neg =>
    have E4 := Lib.hid (show inconeR c x = false by rw [E3.out, decide_eq_false h4]; rfl)
    go_wp2_with fail
    go_ret
    exact ⟨ret_bool E4.out.symm, B3.out⟩
  have E4 := Lib.hid (show inconeR c x = decide (0 ≤ crP px (ptOf c.2)) by rw [E3.out, decide_eq_true h4]; rfl)
  obtain ⟨⟨l0, l1⟩, -⟩ := K3.out.two
  go_wp2_with fail
  refine (s_cross px (ptOf c.2) (by have := PX.out.2; omega) R2.out.2.2.1.wide _ _ _ HX3.out (by rw [R2.out.2.2.2.2]; exact HT.out.below B3.out)).mono ?_
  rintro e w4 ⟨rfl, hb⟩
  have B4 := Lib.hid (B3.out.trans (hb.mono B3.out.size))
  clear hb l0 l1
  go_wp2_with fail
  go_ret
  exact ⟨ret_bool (by rw [E4.out]; exact decide_eq_decide.2 (by unfold crP; omega)), B4.out⟩
end Go.Proofs.Ytoekgcafhcamjaa
