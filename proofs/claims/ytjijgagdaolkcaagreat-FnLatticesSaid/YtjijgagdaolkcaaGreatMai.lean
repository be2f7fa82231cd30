/- The model's matrices: IsMatrix, the determinant. -/
import Derived.Test.YtjijgagdaolkcaaGreatMac
import Derived.Test.YtjijgagdaolkcaaGreatMah
import Derived.LoopN
import Derived.Deep.RegionHeld3
namespace Go.Proofs.YtjijgagdaolkcaaGreat
open Go.RowKit Go.Lib

set_option maxRecDepth 100000 in
set_option maxHeartbeats 800000 in
theorem s_ismat (m : List (List Int)) (v : Value) (w : World) (hv : Rw w v m) :
    Calls Tryz.prog 39 #[v] w (Quiet w (.bool (isM m))) := by
  have HV := Lib.hid hv
  obtain ⟨a, c, rfl, hm, _⟩ := hv.shape
  unfold maxLen at hm
  clear hv
  go_enter Tryz.func39, Tryz.ntmps39
  go_wp2
  go_loopw [3] (fun i wr => ∃ k : Nat, k ≤ m.length ∧ i = .int .i64 k ∧ (m.take k).all (rowOk m.length) = true ∧ Below w.heap.size w wr) (fun i _ => m.length - (RowKit.intOf i).toNat)
  case atStart => exact ⟨0, Nat.zero_le _, rfl, rfl, Below.refl _ _⟩
  case round =>
    obtain ⟨k, hk, rfl, ht, hbr⟩ := hrel
    have HB := Lib.hid hbr
    have HT := Lib.hid ht
    clear ht
    by_cases hlt : k < m.length
    · obtain ⟨b, off, u, rfl, hb2, hcell, hsl⟩ := HV.out.row k hlt rfl
      rw [← hbr.cell (p := ⟨b, off + k, none⟩) hb2] at hcell
      have hs2 := hsl.below hbr
      obtain ⟨ua, uc, rfl, hum, _⟩ := hs2.shape
      rw [intVals_len] at hcell hum hs2
      unfold maxLen at hum
      have HS := Lib.hid hs2
      clear hsl hbr hs2
      by_cases hl : m[k].length = m.length
      · have hne : ((m[k].length : Int) != (m.length : Int)) = false := by simp [hl]
        have HL := Lib.hid hl
        clear hl
        by_cases hs : small m[k] 100 = true
        · have HX := Lib.hid hs
          have HR := Lib.hid (rows_take hlt HT.out (show rowOk m.length m[k] = true by unfold rowOk; rw [decide_eq_true HL.out, hs]; rfl))
          clear hs
          go_wp2_with fail
          refine (s_small m[k] 100 (by omega) (by omega) _ _ HS.out).mono ?_
          rintro e w1 ⟨rfl, hb1⟩
          rw [HX.out]
          have HB1 := Lib.hid (HB.out.trans (hb1.mono HB.out.size))
          clear hb1
          go_wp2_with fail
          exact ⟨⟨k + 1, by omega, by go_num, HR.out, HB1.out⟩, by simp [RowKit.intOf]; omega⟩
        · have HX := Lib.hid (bool_f hs)
          have HR := Lib.hid (show isM m = false by unfold isM; rw [rows_not hlt (show rowOk m.length m[k] = false by unfold rowOk; rw [bool_f hs]; simp)]; rfl)
          clear hs
          go_wp2_with fail
          refine (s_small m[k] 100 (by omega) (by omega) _ _ HS.out).mono ?_
          rintro e w1 ⟨rfl, hb1⟩
          rw [HX.out]
          have HB1 := Lib.hid (HB.out.trans (hb1.mono HB.out.size))
          clear hb1
          go_wp2_with fail
          go_ret
          exact ⟨ret_bool HR.out.symm, HB1.out⟩
      · have hne : ((m[k].length : Int) != (m.length : Int)) = true := by rw [bne_iff_ne]; omega
        have HR := Lib.hid (show isM m = false by unfold isM; rw [rows_not hlt (show rowOk m.length m[k] = false by unfold rowOk; rw [decide_eq_false hl]; rfl)]; rfl)
        clear hl
        go_wp2_with fail
        go_ret
        exact ⟨ret_bool HR.out.symm, HB.out⟩
    · obtain rfl : k = m.length := by omega
      have HR := Lib.hid (show isM m = inR m.length 1 3 by unfold isM; have := HT.out; rw [List.take_length] at this; rw [this]; rfl)
      clear hbr
      go_wp2_with fail
      refine (s_in _ _ _ _).mono ?_
      rintro e w1 ⟨rfl, rfl⟩
      go_wp2_with fail
      go_ret
      exact ⟨ret_bool HR.out.symm, HB.out⟩

theorem mul100 {b x y : Int} (hb : b ≤ 100000) (hx : -b ≤ x ∧ x ≤ b) (hy : -b ≤ y ∧ y ≤ b) : -10000000000 ≤ x * y ∧ x * y ≤ 10000000000 := by
  have := mul_bd (m := 100000) (n := 100000) (x := x) (y := y) (by omega) (by omega) (by omega) (by omega)
  omega
theorem mulbig {b x y : Int} (hb : b ≤ 100000) (hx : -b ≤ x ∧ x ≤ b) (h1 : -20000000000 ≤ y) (h2 : y ≤ 20000000000) : -2000000000000000 ≤ x * y ∧ x * y ≤ 2000000000000000 := by
  have := mul_bd (m := 100000) (n := 20000000000) (x := x) (y := y) (by omega) (by omega) h1 h2
  omega
set_option maxRecDepth 100000 in
set_option maxHeartbeats 1600000 in
theorem s_det (n : Nat) (b : Int) (m : List (List Int)) (h1 : 1 ≤ n) (h3 : n ≤ 3) (hb0 : 0 ≤ b) (hb : b ≤ 100000) (hsq : Sq n b m) (v : Value) (w : World) (hv : Rw w v m) :
    Calls Tryz.prog 79 #[v] w (Quiet w (.int .i64 (detL m))) := by
  by_cases e1 : n = 1
  · subst e1
    obtain ⟨x, rfl, _⟩ := sq1 hsq
    obtain ⟨a, c, rfl, _, _⟩ := hv.shape
    obtain ⟨p, o, u, rfl, _, hc0, hs0⟩ := hv.row 0 (by simp) rfl
    obtain ⟨ua, uc, rfl, _, _⟩ := hs0.shape
    obtain ⟨q, t, rfl, _, hx⟩ := hs0.get (v := [x]) 0 (by simp)
    simp only [Nat.add_zero, List.getElem_cons_zero, intVals, List.map_cons, List.map_nil, List.length_cons, List.length_nil, Nat.zero_add] at hc0 hx ⊢
    clear hv hs0 hsq
    go_enter Tryz.func79, Tryz.ntmps79
    go_wp2
    go_ret
    exact ⟨rfl, Below.refl _ _⟩
  · by_cases e2 : n = 2
    · subst e2
      obtain ⟨x, y, z, u, rfl, hx, hy, hz, hu⟩ := sq2 hsq
      obtain ⟨a, c, rfl, _, _⟩ := hv.shape
      obtain ⟨p, o, u0, rfl, _, hc0, hs0⟩ := hv.row 0 (by simp) rfl
      obtain ⟨_, _, u1, ee1, _, hc1, hs1⟩ := hv.row 1 (by simp) rfl
      cases ee1
      obtain ⟨ua0, uc0, rfl, _, _⟩ := hs0.shape
      obtain ⟨q0, t0, rfl, _, hx00⟩ := hs0.get (v := [x, y]) 0 (by simp)
      obtain ⟨_, _, ff01, _, hx01⟩ := hs0.get (v := [x, y]) 1 (by simp)
      cases ff01
      obtain ⟨ua1, uc1, rfl, _, _⟩ := hs1.shape
      obtain ⟨q1, t1, rfl, _, hx10⟩ := hs1.get (v := [z, u]) 0 (by simp)
      obtain ⟨_, _, ff11, _, hx11⟩ := hs1.get (v := [z, u]) 1 (by simp)
      cases ff11
      simp only [Nat.add_zero, List.getElem_cons_zero, List.getElem_cons_succ, intVals, List.map_cons, List.map_nil, List.length_cons, List.length_nil, Nat.zero_add, Nat.reduceAdd] at hc0 hc1 hx00 hx01 hx10 hx11 ⊢
      clear hv hs0 hs1 hsq
      have p1 := mul_bd hx.1 hx.2 hu.1 hu.2
      have p2 := mul_bd hy.1 hy.2 hz.1 hz.2
      have bb : b * b ≤ 100000 * 100000 := Int.mul_le_mul hb hb hb0 (by omega)
      have m1 : -10000000000 ≤ x * u := by omega
      have m2 : x * u ≤ 10000000000 := by omega
      have m3 : -10000000000 ≤ y * z := by omega
      have m4 : y * z ≤ 10000000000 := by omega
      have hr : [[x, y], [z, u]] = [[x, y], [z, u]] := rfl
      clear p1 p2 bb hr
      go_enter Tryz.func79, Tryz.ntmps79
      go_wp2
      go_quiet (fail)
      go_wp2
      go_ret
      exact ⟨ret_int rfl, below_drewN' (Below.refl _ _) _⟩
    · obtain rfl : n = 3 := by omega
      obtain ⟨x0, x1, x2, y0, y1, y2, z0, z1, z2, rfl, hb00, hb01, hb02, hb10, hb11, hb12, hb20, hb21, hb22⟩ := sq3 hsq
      obtain ⟨a, c, rfl, _, _⟩ := hv.shape
      obtain ⟨p, o, u0, rfl, _, hc0, hs0⟩ := hv.row 0 (by simp) rfl
      obtain ⟨_, _, u1, ee1, _, hc1, hs1⟩ := hv.row 1 (by simp) rfl
      cases ee1
      obtain ⟨_, _, u2, ee2, _, hc2, hs2⟩ := hv.row 2 (by simp) rfl
      cases ee2
      obtain ⟨ua0, uc0, rfl, _, _⟩ := hs0.shape
      obtain ⟨q0, t0, rfl, _, hx00⟩ := hs0.get (v := [x0, x1, x2]) 0 (by simp)
      obtain ⟨_, _, ff01, _, hx01⟩ := hs0.get (v := [x0, x1, x2]) 1 (by simp)
      cases ff01
      obtain ⟨_, _, ff02, _, hx02⟩ := hs0.get (v := [x0, x1, x2]) 2 (by simp)
      cases ff02
      obtain ⟨ua1, uc1, rfl, _, _⟩ := hs1.shape
      obtain ⟨q1, t1, rfl, _, hx10⟩ := hs1.get (v := [y0, y1, y2]) 0 (by simp)
      obtain ⟨_, _, ff11, _, hx11⟩ := hs1.get (v := [y0, y1, y2]) 1 (by simp)
      cases ff11
      obtain ⟨_, _, ff12, _, hx12⟩ := hs1.get (v := [y0, y1, y2]) 2 (by simp)
      cases ff12
      obtain ⟨ua2, uc2, rfl, _, _⟩ := hs2.shape
      obtain ⟨q2, t2, rfl, _, hx20⟩ := hs2.get (v := [z0, z1, z2]) 0 (by simp)
      obtain ⟨_, _, ff21, _, hx21⟩ := hs2.get (v := [z0, z1, z2]) 1 (by simp)
      cases ff21
      obtain ⟨_, _, ff22, _, hx22⟩ := hs2.get (v := [z0, z1, z2]) 2 (by simp)
      cases ff22
      simp only [Nat.add_zero, List.getElem_cons_zero, List.getElem_cons_succ, intVals, List.map_cons, List.map_nil, List.length_cons, List.length_nil, Nat.zero_add, Nat.reduceAdd] at hc0 hc1 hc2 hx00 hx01 hx02 hx10 hx11 hx12 hx20 hx21 hx22 ⊢
      clear hv hs0 hs1 hs2 hsq
      obtain ⟨pa0, pb0⟩ := mul100 hb hb11 hb22
      obtain ⟨qa0, qb0⟩ := mul100 hb hb12 hb21
      obtain ⟨ra0, rb0⟩ := mulbig hb hb00 (show -20000000000 ≤ y1 * z2 - y2 * z1 by omega) (show y1 * z2 - y2 * z1 ≤ 20000000000 by omega)
      obtain ⟨pa1, pb1⟩ := mul100 hb hb12 hb20
      obtain ⟨qa1, qb1⟩ := mul100 hb hb10 hb22
      obtain ⟨ra1, rb1⟩ := mulbig hb hb01 (show -20000000000 ≤ y2 * z0 - y0 * z2 by omega) (show y2 * z0 - y0 * z2 ≤ 20000000000 by omega)
      obtain ⟨pa2, pb2⟩ := mul100 hb hb10 hb21
      obtain ⟨qa2, qb2⟩ := mul100 hb hb11 hb20
      obtain ⟨ra2, rb2⟩ := mulbig hb hb02 (show -20000000000 ≤ y0 * z1 - y1 * z0 by omega) (show y0 * z1 - y1 * z0 ≤ 20000000000 by omega)
      go_enter Tryz.func79, Tryz.ntmps79
      go_wp2
      refine wp_loop_rounds 4 ?_
      rw [rounds_succ]
      go_wp2
      go_quiet (fail)
      go_wp2
      rw [rounds_succ]
      go_wp2
      go_quiet (fail)
      go_wp2
      rw [rounds_succ]
      go_wp2
      go_quiet (fail)
      go_wp2
      rw [rounds_succ]
      go_wp2
      go_ret
      exact ⟨ret_int rfl, below_drewN' (Below.refl _ _) _⟩
end Go.Proofs.YtjijgagdaolkcaaGreat
/- The model's matrices: DetOf, IsUnimodular, ApplyMatrix. -/
namespace Go.Proofs.YtjijgagdaolkcaaGreat
open Go.RowKit Go.Lib

set_option maxRecDepth 100000 in
set_option maxHeartbeats 800000 in
theorem s_detof (m : List (List Int)) (v : Value) (w : World) (hv : Rw w v m) :
    Calls Tryz.prog 52 #[v] w (Quiet w (.int .i64 (detR m))) := by
  have HV := Lib.hid hv
  have HC := Lib.hid (s_ismat m v w hv)
  clear hv
  by_cases h : isM m = true
  · have E := Lib.hid h
    have HR := Lib.hid (show detR m = detL m from if_pos h)
    have HT := Lib.hid (isM_t h)
    clear h
    go_enter Tryz.func52, Tryz.ntmps52
    go_wp2_with fail
    refine HC.out.mono ?_
    rintro e w1 ⟨rfl, hb1⟩
    rw [E.out]
    have B1 := Lib.hid hb1
    clear hb1
    go_wp2_with fail
    refine (s_det m.length 100 m HT.out.1 HT.out.2.1 (by omega) (by omega) (isM_sq E.out) _ _ (HV.out.below B1.out)).mono ?_
    rintro e w2 ⟨rfl, hb2⟩
    have B2 := Lib.hid (B1.out.trans (hb2.mono B1.out.size))
    clear hb2
    go_wp2_with fail
    go_ret
    exact ⟨ret_int HR.out.symm, B2.out⟩
  · have E := Lib.hid (bool_f h)
    have HR := Lib.hid (show detR m = 0 from if_neg h)
    clear h
    go_enter Tryz.func52, Tryz.ntmps52
    go_wp2_with fail
    refine HC.out.mono ?_
    rintro e w1 ⟨rfl, hb1⟩
    rw [E.out]
    go_wp2_with fail
    go_ret
    exact ⟨ret_int HR.out.symm, hb1⟩
theorem detR_bd (m : List (List Int)) : -6000000000000000 ≤ detR m ∧ detR m ≤ 6000000000000000 := by
  unfold detR
  split
  · rename_i h
    have ht := isM_t h
    exact det_bd ht.1 ht.2.1 ((isM_sq h).mono (by omega))
  · omega
end Go.Proofs.YtjijgagdaolkcaaGreat
/- The model's ApplyMatrix. -/
namespace Go.Proofs.YtjijgagdaolkcaaGreat
open Go.RowKit Go.Lib

end Go.Proofs.YtjijgagdaolkcaaGreat
