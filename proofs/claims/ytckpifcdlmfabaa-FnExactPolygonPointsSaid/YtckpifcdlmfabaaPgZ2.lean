/- The program's AreaTwice, BoundaryCount, InnerCount, PlaceOf. -/
import Derived.Test.YtckpifcdlmfabaaPgZ
import Derived.Test.YtckpifcdlmfabaaPgY
namespace Go.Proofs.Ytckpifcdlmfabaa
open Go Go.RowKit Go.Lib

theorem bk6c {w : World} {b : Nat} {x0 x1 x2 x3 x4 x5 : Value} {T : TypeId} (h : Bk w b #[x0, x1, x2, x3, x4, x5] T) : w.cell? ⟨b, 0, none⟩ = some x0 ∧ w.cell? ⟨b, 1, none⟩ = some x1 ∧ w.cell? ⟨b, 2, none⟩ = some x2 ∧ w.cell? ⟨b, 3, none⟩ = some x3 ∧ w.cell? ⟨b, 4, none⟩ = some x4 ∧ w.cell? ⟨b, 5, none⟩ = some x5 := ⟨h.cell 0 rfl, h.cell 1 rfl, h.cell 2 rfl, h.cell 3 rfl, h.cell 4 rfl, h.cell 5 rfl⟩
set_option maxRecDepth 100000 in
set_option maxHeartbeats 1600000 in
theorem i_areatwice (p : List (List Int)) (v : Value) (w : World) (hv : Rw w v p) :
    Calls Try.prog 33 #[v] w (Quiet w (.int .i64 (areaR p))) := by
  have HV := Lib.hid hv
  obtain ⟨va, vc, rfl, _, _⟩ := hv.shape
  clear hv
  by_cases h : polyR p = true
  case neg =>
    have HP := Lib.hid (bool_f h)
    refine (quiet_cast (show areaR p = -1 from if_neg h) ?_)
    clear h
    go_enter Try.func33, Try.ntmps33
    go_wp2_with fail
    refine (i_ispoly p _ _ HV.out).mono ?_
    rintro e w1 ⟨rfl, hb⟩
    rw [HP.out]
    have HB := Lib.hid hb
    clear hb
    go_wp2
    go_ret
    exact ⟨rfl, HB.out⟩
  have HP := Lib.hid h
  refine (quiet_cast (show areaR p = areaL (sidesR p) from if_pos h) ?_)
  have HLP := Lib.hid (poly_len h)
  have BB := Lib.hid (area_bd (sides_bd (poly_bd h)))
  have HSB := Lib.hid (sides_bd (poly_bd h))
  obtain ⟨ps, hps⟩ : ∃ ps, p.map ptOf = ps := ⟨_, rfl⟩
  unfold sidesR
  have HPR := Lib.hid (poly_rows h)
  rw [hps] at HLP BB HPR HSB ⊢
  clear h hps
  have HSL := Lib.hid (sidesP_len ps)
  go_enter Try.func33, Try.ntmps33
  go_wp2_with fail
  refine (i_ispoly p _ _ HV.out).mono ?_
  rintro e w1 ⟨rfl, hb⟩
  rw [HP.out]
  have HB1 := Lib.hid hb
  clear hb
  go_wp2_with fail
  refine (i_sides ps HLP.out.2 _ _ (by rw [HPR.out]; exact HV.out.below HB1.out)).mono ?_
  rintro e w2 ⟨⟨g, c, rfl, hs⟩, hb2⟩
  obtain ⟨L, hL⟩ : ∃ L, sidesP ps = L := ⟨_, rfl⟩
  rw [hL] at hs BB HSL HSB ⊢
  have HS := Lib.hid hs
  have HB2 := Lib.hid (HB1.out.trans (hb2.mono HB1.out.size))
  have hl12 : L.length ≤ 12 := by rw [HSL.out]; exact HLP.out.2
  have hlc : L.length ≤ c := by
    obtain ⟨_, _, e, h, _⟩ := hs.shape
    simp only [Value.slice.injEq] at e
    omega
  have HLL := Lib.hid hL
  clear hs hb2 hL
  go_wp2_with fail
  go_loopw [12, 3] (fun i s wr => ∃ k : Nat, k ≤ L.length ∧ i = .int .i64 k ∧ s = .int .i64 (areaL (L.take k)) ∧ Below w2.heap.size w2 wr) (fun i _ _ => L.length - (RowKit.intOf i).toNat)
  case atStart => exact ⟨0, Nat.zero_le _, rfl, rfl, Below.refl _ _⟩
  case round =>
    obtain ⟨k, hk, rfl, rfl, hbr⟩ := hrel
    have HA := Lib.hid hbr
    have HW := Lib.hid (HB2.out.trans (hbr.mono HB2.out.size))
    clear hbr
    by_cases hlt : k < L.length
    · have i1 : (0 : Int) ≤ (k : Int) := by omega
      have i2 : (k : Int) < (L.length : Int) := by omega
      obtain ⟨b, e1, -, -, hb2, ⟨q0, q1, q2, q3, q4, q5⟩, -⟩ := HS.out.at6 k hlt rfl
      simp only [Option.some.injEq, Addr.mk.injEq, and_true] at e1
      subst e1
      rw [← HA.out.cell (p := ⟨g, k * 6, none⟩) hb2] at q0
      rw [← HA.out.cell (p := ⟨g, k * 6 + 1, none⟩) hb2] at q1
      rw [← HA.out.cell (p := ⟨g, k * 6 + 2, none⟩) hb2] at q2
      rw [← HA.out.cell (p := ⟨g, k * 6 + 3, none⟩) hb2] at q3
      rw [← HA.out.cell (p := ⟨g, k * 6 + 4, none⟩) hb2] at q4
      rw [← HA.out.cell (p := ⟨g, k * 6 + 5, none⟩) hb2] at q5
      have AT := Lib.hid (area_take hlt)
      have bd := HSB.out L[k] (List.getElem_mem hlt)
      have b1 := BB.out k (by omega)
      have b2 := crossS_bd bd
      obtain ⟨s, hs⟩ : ∃ s, L[k] = s := ⟨_, rfl⟩
      rw [hs] at q0 q1 q3 q4 AT b2 bd
      obtain ⟨⟨x1, x2⟩, ⟨y1, y2⟩⟩ := s
      simp only at q0 q1 q3 q4 bd
      have BD := Lib.hid bd
      obtain ⟨sm, hs⟩ : ∃ sm, areaL (L.take k) = sm := ⟨_, rfl⟩
      obtain ⟨cr, hc⟩ : ∃ cr, crossS ((x1, x2), (y1, y2)) = cr := ⟨_, rfl⟩
      rw [hs] at AT b1 ⊢
      rw [hc] at AT b2
      have HC := Lib.hid hc
      have j8 : IntKind.i64.wrap (sm + cr) = sm + cr := by rw [IntWalk.i64_in _ (by omega)]
      have KX := Lib.hid (Bk.new wr #[.int .i64 x1, .int .i64 x2, .int .i64 0, .int .i64 y1, .int .i64 y2, .int .i64 0] 88)
      have BX := Lib.hid (below1 wr (.cells #[.int .i64 x1, .int .i64 x2, .int .i64 0, .int .i64 y1, .int .i64 y2, .int .i64 0] 88))
      clear hs hc bd b1 b2 hb2
      go_wp2_with fail
      refine (i_turn (0, 0) (x1, x2) (y1, y2) (by unfold BdP; simp only; omega) BD.out.1 (BD.out.2.wide (by omega)) _).mono ?_
      rintro e w3 ⟨rfl, hb3⟩
      rw [turn_zero, HC.out]
      have HB3 := Lib.hid (HA.out.trans ((BX.out.mono HA.out.size).trans (hb3.mono (Nat.le_trans HA.out.size BX.out.size))))
      clear hb3
      go_wp2
      exact ⟨⟨k + 1, by omega, by go_num, by rw [AT.out], HB3.out⟩, by simp [RowKit.intOf]; omega⟩
    · obtain rfl : k = L.length := by omega
      rw [List.take_length]
      go_wp2
      go_ret
      exact ⟨by rw [HLL.out]; rfl, HW.out⟩
set_option maxRecDepth 100000 in
set_option maxHeartbeats 1600000 in
theorem i_bound (p : List (List Int)) (v : Value) (w : World) (hv : Rw w v p) :
    Calls Try.prog 35 #[v] w (Quiet w (.int .i64 (boundR p))) := by
  have HV := Lib.hid hv
  obtain ⟨va, vc, rfl, _, _⟩ := hv.shape
  clear hv
  by_cases h : polyR p = true
  case neg =>
    have HP := Lib.hid (bool_f h)
    refine (quiet_cast (show boundR p = -1 from if_neg h) ?_)
    clear h
    go_enter Try.func35, Try.ntmps35
    go_wp2_with fail
    refine (i_ispoly p _ _ HV.out).mono ?_
    rintro e w1 ⟨rfl, hb⟩
    rw [HP.out]
    have HB := Lib.hid hb
    clear hb
    go_wp2
    go_ret
    exact ⟨rfl, HB.out⟩
  have HP := Lib.hid h
  refine (quiet_cast (show boundR p = boundL (sidesR p) from if_pos h) ?_)
  have HLP := Lib.hid (poly_len h)
  have BB := Lib.hid (bound_bd (sides_bd (poly_bd h)))
  have HSB := Lib.hid (sides_bd (poly_bd h))
  obtain ⟨ps, hps⟩ : ∃ ps, p.map ptOf = ps := ⟨_, rfl⟩
  unfold sidesR
  have HPR := Lib.hid (poly_rows h)
  rw [hps] at HLP BB HPR HSB ⊢
  clear h hps
  have HSL := Lib.hid (sidesP_len ps)
  go_enter Try.func35, Try.ntmps35
  go_wp2_with fail
  refine (i_ispoly p _ _ HV.out).mono ?_
  rintro e w1 ⟨rfl, hb⟩
  rw [HP.out]
  have HB1 := Lib.hid hb
  clear hb
  go_wp2_with fail
  refine (i_sides ps HLP.out.2 _ _ (by rw [HPR.out]; exact HV.out.below HB1.out)).mono ?_
  rintro e w2 ⟨⟨g, c, rfl, hs⟩, hb2⟩
  obtain ⟨L, hL⟩ : ∃ L, sidesP ps = L := ⟨_, rfl⟩
  rw [hL] at hs BB HSL HSB ⊢
  have HS := Lib.hid hs
  have HB2 := Lib.hid (HB1.out.trans (hb2.mono HB1.out.size))
  have hl12 : L.length ≤ 12 := by rw [HSL.out]; exact HLP.out.2
  have hlc : L.length ≤ c := by
    obtain ⟨_, _, e, h, _⟩ := hs.shape
    simp only [Value.slice.injEq] at e
    omega
  have HLL := Lib.hid hL
  clear hs hb2 hL
  go_wp2_with fail
  go_loopw [13, 3] (fun i s wr => ∃ k : Nat, k ≤ L.length ∧ i = .int .i64 k ∧ s = .int .i64 (boundL (L.take k)) ∧ Below w2.heap.size w2 wr) (fun i _ _ => L.length - (RowKit.intOf i).toNat)
  case atStart => exact ⟨0, Nat.zero_le _, rfl, rfl, Below.refl _ _⟩
  case round =>
    obtain ⟨k, hk, rfl, rfl, hbr⟩ := hrel
    have HA := Lib.hid hbr
    have HW := Lib.hid (HB2.out.trans (hbr.mono HB2.out.size))
    clear hbr
    by_cases hlt : k < L.length
    · have i1 : (0 : Int) ≤ (k : Int) := by omega
      have i2 : (k : Int) < (L.length : Int) := by omega
      obtain ⟨b, e1, -, -, hb2, ⟨q0, q1, q2, q3, q4, q5⟩, -⟩ := HS.out.at6 k hlt rfl
      simp only [Option.some.injEq, Addr.mk.injEq, and_true] at e1
      subst e1
      rw [← HA.out.cell (p := ⟨g, k * 6, none⟩) hb2] at q0
      rw [← HA.out.cell (p := ⟨g, k * 6 + 1, none⟩) hb2] at q1
      rw [← HA.out.cell (p := ⟨g, k * 6 + 2, none⟩) hb2] at q2
      rw [← HA.out.cell (p := ⟨g, k * 6 + 3, none⟩) hb2] at q3
      rw [← HA.out.cell (p := ⟨g, k * 6 + 4, none⟩) hb2] at q4
      rw [← HA.out.cell (p := ⟨g, k * 6 + 5, none⟩) hb2] at q5
      have AT := Lib.hid (bound_take hlt)
      have bd := HSB.out L[k] (List.getElem_mem hlt)
      have b1 := BB.out k (by omega)
      have b2 := stepS_bd bd
      obtain ⟨s, hs⟩ : ∃ s, L[k] = s := ⟨_, rfl⟩
      rw [hs] at q0 q1 q3 q4 AT b2 bd
      obtain ⟨⟨x1, x2⟩, ⟨y1, y2⟩⟩ := s
      simp only at q0 q1 q3 q4 bd
      have BD := Lib.hid bd
      obtain ⟨sm, hs⟩ : ∃ sm, boundL (L.take k) = sm := ⟨_, rfl⟩
      obtain ⟨cr, hc⟩ : ∃ cr, stepS ((x1, x2), (y1, y2)) = cr := ⟨_, rfl⟩
      rw [hs] at AT b1 ⊢
      rw [hc] at AT b2
      have HC := Lib.hid hc
      have j8 : IntKind.i64.wrap (sm + cr) = sm + cr := by rw [IntWalk.i64_in _ (by omega)]
      have KX := Lib.hid (Bk.new wr #[.int .i64 x1, .int .i64 x2, .int .i64 0, .int .i64 y1, .int .i64 y2, .int .i64 0] 88)
      have BX := Lib.hid (below1 wr (.cells #[.int .i64 x1, .int .i64 x2, .int .i64 0, .int .i64 y1, .int .i64 y2, .int .i64 0] 88))
      clear hs hc bd b1 b2 hb2
      have bd1 := BD.out.1
      have bd2 := BD.out.2
      unfold BdP at bd1 bd2
      simp only at bd1 bd2
      have A1 := Lib.hid (fun W => i_addtP y1 y2 0 (-1) x1 x2 0 W (by omega) (by omega) (by omega) (by omega) (by omega) (by omega))
      have G1 := Lib.hid (fun W => i_gcd (y1 + -1 * x1) (y2 + -1 * x2) (by omega) (by omega) (by omega) (by omega) W)
      have HG := Lib.hid (show gcdI (y1 + -1 * x1) (y2 + -1 * x2) = cr by rw [← HC.out]; show _ = gcdI (y1 - x1) (y2 - x2); rw [show y1 + -1 * x1 = y1 - x1 by omega, show y2 + -1 * x2 = y2 - x2 by omega])
      rw [HG.out] at G1
      generalize y1 + -1 * x1 = d1 at *
      generalize y2 + -1 * x2 = d2 at *
      generalize (0 : Int) + -1 * 0 = d3 at *
      clear bd1 bd2
      go_wp2_with fail
      refine (A1.out _).mono ?_
      rintro e w3 ⟨rfl, hb3⟩
      have HB3 := Lib.hid (HA.out.trans ((BX.out.mono HA.out.size).trans (hb3.mono (Nat.le_trans HA.out.size BX.out.size))))
      have BZ := Lib.hid (below1 w3 (.cells #[.int .i64 d1, .int .i64 d2, .int .i64 d3] 57))
      clear hb3
      go_wp2_with fail
      refine (G1.out _).mono ?_
      rintro e w4 ⟨rfl, hb4⟩
      have HB4 := Lib.hid (HB3.out.trans ((BZ.out.mono HB3.out.size).trans (hb4.mono (Nat.le_trans HB3.out.size BZ.out.size))))
      clear hb4
      go_wp2
      exact ⟨⟨k + 1, by omega, by go_num, by rw [AT.out], HB4.out⟩, by simp [RowKit.intOf]; omega⟩
    · obtain rfl : k = L.length := by omega
      rw [List.take_length]
      go_wp2
      go_ret
      exact ⟨by rw [HLL.out]; rfl, HW.out⟩
set_option maxRecDepth 100000 in
set_option maxHeartbeats 800000 in
theorem i_inner (p : List (List Int)) (v : Value) (w : World) (hv : Rw w v p) :
    Calls Try.prog 37 #[v] w (Quiet w (.int .i64 (innerR p))) := by
  have HV := Lib.hid hv
  obtain ⟨va, vc, rfl, _, _⟩ := hv.shape
  clear hv
  by_cases h : polyR p = true
  case neg =>
    have HP := Lib.hid (bool_f h)
    refine (quiet_cast (show innerR p = -1 from if_neg h) ?_)
    clear h
    go_enter Try.func37, Try.ntmps37
    go_wp2_with fail
    refine (i_ispoly p _ _ HV.out).mono ?_
    rintro e w1 ⟨rfl, hb⟩
    rw [HP.out]
    have HB := Lib.hid hb
    clear hb
    go_wp2
    go_ret
    exact ⟨rfl, HB.out⟩
  have HP := Lib.hid h
  have h1 := area_all h
  have h2 := bound_all h
  refine (quiet_cast (show innerR p = (areaL (sidesR p) - boundL (sidesR p) + 2).tdiv 2 from if_pos h) ?_)
  have HE := Lib.hid (show boundR p = boundL (sidesR p) from if_pos h)
  have HS := Lib.hid (show areaR p = areaL (sidesR p) from if_pos h)
  obtain ⟨A, hA⟩ : ∃ A, areaL (sidesR p) = A := ⟨_, rfl⟩
  obtain ⟨B, hB⟩ : ∃ B, boundL (sidesR p) = B := ⟨_, rfl⟩
  rw [hA] at h1 HS ⊢
  rw [hB] at h2 HE ⊢
  have j1 : IntKind.i64.wrap (A - B) = A - B := by rw [IntWalk.i64_in _ (by omega)]
  have j2 : IntKind.i64.wrap (A - B + 2) = A - B + 2 := by rw [IntWalk.i64_in _ (by omega)]
  have j3 : IntKind.i64.wrap ((A - B + 2).tdiv 2) = (A - B + 2).tdiv 2 := IntWalk.i64_in _ (by have h3 := Int.natAbs_tdiv_le_natAbs (A - B + 2) 2; generalize (A - B + 2).tdiv 2 = t at h3; omega)
  clear h hA hB h1 h2
  go_enter Try.func37, Try.ntmps37
  go_wp2_with fail
  refine (i_ispoly p _ _ HV.out).mono ?_
  rintro e w1 ⟨rfl, hb⟩
  rw [HP.out]
  have HB := Lib.hid hb
  clear hb
  go_wp2_with fail
  refine (i_areatwice p _ _ (HV.out.below HB.out)).mono ?_
  rintro e w2 ⟨rfl, hb2⟩
  rw [HS.out]
  have HB2 := Lib.hid (HB.out.trans (hb2.mono HB.out.size))
  clear hb2
  go_wp2_with fail
  refine (i_bound p _ _ (HV.out.below HB2.out)).mono ?_
  rintro e w3 ⟨rfl, hb3⟩
  rw [HE.out]
  have HB3 := Lib.hid (HB2.out.trans (hb3.mono HB2.out.size))
  clear hb3
  go_wp2
  go_ret
  exact ⟨rfl, HB3.out⟩
end Go.Proofs.Ytckpifcdlmfabaa
