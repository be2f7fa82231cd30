/- The model's matrices: IsMatrix, the determinant. -/
import Derived.Test.YtckpifcdlmfabaaMac
import Derived.Test.YtckpifcdlmfabaaMai
import Derived.LoopN
import Derived.Deep.RegionHeld3
namespace Go.Proofs.Ytckpifcdlmfabaa
open Go.RowKit Go.Lib

theorem mul100 {b x y : Int} (hb : b ≤ 100000) (hx : -b ≤ x ∧ x ≤ b) (hy : -b ≤ y ∧ y ≤ b) : -10000000000 ≤ x * y ∧ x * y ≤ 10000000000 := by
  have := mul_bd (m := 100000) (n := 100000) (x := x) (y := y) (by omega) (by omega) (by omega) (by omega)
  omega
theorem mulbig {b x y : Int} (hb : b ≤ 100000) (hx : -b ≤ x ∧ x ≤ b) (h1 : -20000000000 ≤ y) (h2 : y ≤ 20000000000) : -2000000000000000 ≤ x * y ∧ x * y ≤ 2000000000000000 := by
  have := mul_bd (m := 100000) (n := 20000000000) (x := x) (y := y) (by omega) (by omega) h1 h2
  omega
set_option maxRecDepth 100000 in
set_option maxHeartbeats 1600000 in
theorem s_det (n : Nat) (b : Int) (m : List (List Int)) (h1 : 1 ≤ n) (h3 : n ≤ 3) (hb0 : 0 ≤ b) (hb : b ≤ 100000) (hsq : Sq n b m) (v : Value) (w : World) (hv : Rw w v m) :
    Calls Try.prog 127 #[v] w (Quiet w (.int .i64 (detL m))) := by
  by_cases e1 : n = 1
  · subst e1
    obtain ⟨x, rfl, _⟩ := sq1 hsq
    obtain ⟨a, c, rfl, _, _⟩ := hv.shape
    obtain ⟨p, o, u, rfl, _, hc0, hs0⟩ := hv.row 0 (by simp) rfl
    obtain ⟨ua, uc, rfl, _, _⟩ := hs0.shape
    obtain ⟨q, t, rfl, _, hx⟩ := hs0.get (v := [x]) 0 (by simp)
    simp only [Nat.add_zero, List.getElem_cons_zero, intVals, List.map_cons, List.map_nil, List.length_cons, List.length_nil, Nat.zero_add] at hc0 hx ⊢
    clear hv hs0 hsq
    go_enter Try.func127, Try.ntmps127
    go_wp2
    go_ret
    exact ⟨rfl, Below.refl _ _⟩
  · by_cases e2 : n = 2
    · subst e2
      obtain ⟨x, y, z, u, rfl, hx, hy, hz, hu⟩ := sq2 hsq
      obtain ⟨a, c, rfl, _, _⟩ := hv.shape
      obtain ⟨p, o, u0, rfl, _, hc0, hs0⟩ := hv.row 0 (by simp) rfl
      obtain ⟨_, _, u1, ee1, _, hc1, hs1⟩ := hv.row 1 (by simp) rfl
      cases ee1
      obtain ⟨ua0, uc0, rfl, _, _⟩ := hs0.shape
      obtain ⟨q0, t0, rfl, _, hx00⟩ := hs0.get (v := [x, y]) 0 (by simp)
      obtain ⟨_, _, ff01, _, hx01⟩ := hs0.get (v := [x, y]) 1 (by simp)
      cases ff01
      obtain ⟨ua1, uc1, rfl, _, _⟩ := hs1.shape
      obtain ⟨q1, t1, rfl, _, hx10⟩ := hs1.get (v := [z, u]) 0 (by simp)
      obtain ⟨_, _, ff11, _, hx11⟩ := hs1.get (v := [z, u]) 1 (by simp)
      cases ff11
      simp only [Nat.add_zero, List.getElem_cons_zero, List.getElem_cons_succ, intVals, List.map_cons, List.map_nil, List.length_cons, List.length_nil, Nat.zero_add, Nat.reduceAdd] at hc0 hc1 hx00 hx01 hx10 hx11 ⊢
      clear hv hs0 hs1 hsq
      have p1 := mul_bd hx.1 hx.2 hu.1 hu.2
      have p2 := mul_bd hy.1 hy.2 hz.1 hz.2
      have bb : b * b ≤ 100000 * 100000 := Int.mul_le_mul hb hb hb0 (by omega)
      have m1 : -10000000000 ≤ x * u := by omega
      have m2 : x * u ≤ 10000000000 := by omega
      have m3 : -10000000000 ≤ y * z := by omega
      have m4 : y * z ≤ 10000000000 := by omega
      have hr : [[x, y], [z, u]] = [[x, y], [z, u]] := rfl
      clear p1 p2 bb hr
      go_enter Try.func127, Try.ntmps127
      go_wp2
      go_quiet (fail)
      go_wp2
      go_ret
      exact ⟨ret_int rfl, below_drewN' (Below.refl _ _) _⟩
    · obtain rfl : n = 3 := by omega
      obtain ⟨x0, x1, x2, y0, y1, y2, z0, z1, z2, rfl, hb00, hb01, hb02, hb10, hb11, hb12, hb20, hb21, hb22⟩ := sq3 hsq
      obtain ⟨a, c, rfl, _, _⟩ := hv.shape
      obtain ⟨p, o, u0, rfl, _, hc0, hs0⟩ := hv.row 0 (by simp) rfl
      obtain ⟨_, _, u1, ee1, _, hc1, hs1⟩ := hv.row 1 (by simp) rfl
      cases ee1
      obtain ⟨_, _, u2, ee2, _, hc2, hs2⟩ := hv.row 2 (by simp) rfl
      cases ee2
      obtain ⟨ua0, uc0, rfl, _, _⟩ := hs0.shape
      obtain ⟨q0, t0, rfl, _, hx00⟩ := hs0.get (v := [x0, x1, x2]) 0 (by simp)
      obtain ⟨_, _, ff01, _, hx01⟩ := hs0.get (v := [x0, x1, x2]) 1 (by simp)
      cases ff01
      obtain ⟨_, _, ff02, _, hx02⟩ := hs0.get (v := [x0, x1, x2]) 2 (by simp)
      cases ff02
      obtain ⟨ua1, uc1, rfl, _, _⟩ := hs1.shape
      obtain ⟨q1, t1, rfl, _, hx10⟩ := hs1.get (v := [y0, y1, y2]) 0 (by simp)
      obtain ⟨_, _, ff11, _, hx11⟩ := hs1.get (v := [y0, y1, y2]) 1 (by simp)
      cases ff11
      obtain ⟨_, _, ff12, _, hx12⟩ := hs1.get (v := [y0, y1, y2]) 2 (by simp)
      cases ff12
      obtain ⟨ua2, uc2, rfl, _, _⟩ := hs2.shape
      obtain ⟨q2, t2, rfl, _, hx20⟩ := hs2.get (v := [z0, z1, z2]) 0 (by simp)
      obtain ⟨_, _, ff21, _, hx21⟩ := hs2.get (v := [z0, z1, z2]) 1 (by simp)
      cases ff21
      obtain ⟨_, _, ff22, _, hx22⟩ := hs2.get (v := [z0, z1, z2]) 2 (by simp)
      cases ff22
      simp only [Nat.add_zero, List.getElem_cons_zero, List.getElem_cons_succ, intVals, List.map_cons, List.map_nil, List.length_cons, List.length_nil, Nat.zero_add, Nat.reduceAdd] at hc0 hc1 hc2 hx00 hx01 hx02 hx10 hx11 hx12 hx20 hx21 hx22 ⊢
      clear hv hs0 hs1 hs2 hsq
      obtain ⟨pa0, pb0⟩ := mul100 hb hb11 hb22
      obtain ⟨qa0, qb0⟩ := mul100 hb hb12 hb21
      obtain ⟨ra0, rb0⟩ := mulbig hb hb00 (show -20000000000 ≤ y1 * z2 - y2 * z1 by omega) (show y1 * z2 - y2 * z1 ≤ 20000000000 by omega)
      obtain ⟨pa1, pb1⟩ := mul100 hb hb12 hb20
      obtain ⟨qa1, qb1⟩ := mul100 hb hb10 hb22
      obtain ⟨ra1, rb1⟩ := mulbig hb hb01 (show -20000000000 ≤ y2 * z0 - y0 * z2 by omega) (show y2 * z0 - y0 * z2 ≤ 20000000000 by omega)
      obtain ⟨pa2, pb2⟩ := mul100 hb hb10 hb21
      obtain ⟨qa2, qb2⟩ := mul100 hb hb11 hb20
      obtain ⟨ra2, rb2⟩ := mulbig hb hb02 (show -20000000000 ≤ y0 * z1 - y1 * z0 by omega) (show y0 * z1 - y1 * z0 ≤ 20000000000 by omega)
      go_enter Try.func127, Try.ntmps127
      go_wp2
      refine wp_loop_rounds 4 ?_
      rw [rounds_succ]
      go_wp2
      go_quiet (fail)
      go_wp2
      rw [rounds_succ]
      go_wp2
      go_quiet (fail)
      go_wp2
      rw [rounds_succ]
      go_wp2
      go_quiet (fail)
      go_wp2
      rw [rounds_succ]
      go_wp2
      go_ret
      exact ⟨ret_int rfl, below_drewN' (Below.refl _ _) _⟩
end Go.Proofs.Ytckpifcdlmfabaa
/- The model's matrices: DetOf, IsUnimodular, ApplyMatrix. -/
namespace Go.Proofs.Ytckpifcdlmfabaa
open Go.RowKit Go.Lib

theorem detR_bd (m : List (List Int)) : -6000000000000000 ≤ detR m ∧ detR m ≤ 6000000000000000 := by
  unfold detR
  split
  · rename_i h
    have ht := isM_t h
    exact det_bd ht.1 ht.2.1 ((isM_sq h).mono (by omega))
  · omega
end Go.Proofs.Ytckpifcdlmfabaa
/- The model's ApplyMatrix. -/
namespace Go.Proofs.Ytckpifcdlmfabaa
open Go.RowKit Go.Lib

end Go.Proofs.Ytckpifcdlmfabaa
