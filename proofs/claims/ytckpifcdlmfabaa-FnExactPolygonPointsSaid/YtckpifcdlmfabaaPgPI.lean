/- The program's spanOf, PolygonPoints. -/
import Derived.Test.YtckpifcdlmfabaaPgPM
import Derived.Test.YtckpifcdlmfabaaPgZ3
namespace Go.Proofs.Ytckpifcdlmfabaa
open Go Go.RowKit Go.Lib

theorem madeR_mk {w : World} {r r' : List (List Int)} {e : Ending} {w' : World} (h : r' = r) (g : MadeR w r e w') : MadeR w r' e w' := by subst h; exact g
theorem pointsR_no {p : List (List Int)} (h : ¬ (polyR p = true ∧ areaL (sidesR p) ≤ 2000)) : pointsR p = [] := if_neg h
set_option maxRecDepth 100000 in
set_option maxHeartbeats 1600000 in
theorem i_span0 (ps : List P2) (h1 : 1 ≤ ps.length) (h12 : ps.length ≤ 12) (v : Value) (w : World) (hv : Rw w v (ps.map rowOf)) :
    Calls Try.prog 89 #[v, .int .i64 0] w (Quiet w (.tuple #[.int .i64 (loM (·.1) ps), .int .i64 (hiM (·.1) ps)])) := by
  have HX := Lib.hid hv
  obtain ⟨va, vc, rfl, hvm, _⟩ := hv.shape
  rw [List.length_map] at HX hvm ⊢
  obtain ⟨b1, o1, x, rfl, hb2, hcell, hsx⟩ := HX.out.pt 0 h1
  rw [Nat.add_zero] at hcell
  obtain ⟨b3, o3, c3, rfl, hc3, hb3, r0, r1⟩ := row_cells hsx
  have hg0 : ps.getD 0 (0, 0) = ps[0] := by rw [List.getD_eq_getElem?_getD, List.getElem?_eq_getElem h1]; rfl
  rw [← hg0] at r0 r1
  obtain ⟨q, hq⟩ : ∃ q, ps.getD 0 (0, 0) = q := ⟨_, rfl⟩
  rw [hq] at r0 r1
  have T0 := Lib.hid (show loT (·.1) ps 0 = q.1 ∧ hiT (·.1) ps 0 = q.1 by unfold loT hiT; rw [hq]; exact ⟨rfl, rfl⟩)
  have i0 : (0 : Int) < (ps.length : Int) := by omega
  clear hv hsx hb2 hb3 hg0 hq
  go_enter Try.func89, Try.ntmps89
  go_wp2_with fail
  go_quiet (fail)
  go_wp2_with fail
  refine wgen ?_
  intro w1 hw1
  have HB1 := Lib.hid (show Below w.heap.size w w1 by rw [hw1]; exact below_drewN' (Below.refl _ _) _)
  clear hw1 hcell r0 r1
  go_loopw [24, 6, 7] (fun i lo hi wr => ∃ k : Nat, k ≤ ps.length ∧ i = .int .i64 k ∧ lo = .int .i64 (loT (·.1) ps k) ∧ hi = .int .i64 (hiT (·.1) ps k) ∧ Below w.heap.size w wr) (fun i _ _ _ => ps.length - (RowKit.intOf i).toNat)
  case atStart => exact ⟨0, Nat.zero_le _, rfl, by rw [T0.out.1], by rw [T0.out.2], HB1.out⟩
  case round =>
    obtain ⟨k, hk, rfl, rfl, rfl, hb⟩ := hrel
    have HB := Lib.hid hb
    clear hb
    by_cases hlt : k < ps.length
    · have i1 : (0 : Int) ≤ (k : Int) := by omega
      have i2 : (k : Int) < (ps.length : Int) := by omega
      obtain ⟨b4, o4, y, e4, hb4, hcell4, hs4⟩ := HX.out.pt k hlt
      simp only [Option.some.injEq, Addr.mk.injEq, and_true] at e4
      obtain ⟨rfl, rfl⟩ := e4
      obtain ⟨b5, o5, c5, rfl, hc5, hb5, q0, q1⟩ := row_cells hs4
      rw [← HB.out.cell (p := ⟨b1, o1 + k, none⟩) hb4] at hcell4
      rw [← HB.out.cell (p := ⟨b5, o5, none⟩) hb5] at q0
      rw [← HB.out.cell (p := ⟨b5, o5 + 1, none⟩) hb5] at q1
      have S1 := Lib.hid (loT_step (f := (·.1)) hlt)
      have S2 := Lib.hid (hiT_step (f := (·.1)) hlt)
      try simp only at S1 S2
      obtain ⟨z, hz⟩ : ∃ z, ps[k] = z := ⟨_, rfl⟩
      rw [hz] at q0 q1 S1 S2
      obtain ⟨lo, hlo⟩ : ∃ lo, loT (·.1) ps k = lo := ⟨_, rfl⟩
      obtain ⟨hi, hhi⟩ : ∃ hi, hiT (·.1) ps k = hi := ⟨_, rfl⟩
      rw [hlo] at S1 ⊢
      rw [hhi] at S2 ⊢
      clear hs4 hb4 hb5 hz hlo hhi
      go_wp2_with fail
      go_quiet (fail)
      go_wp2
      exact ⟨⟨k + 1, by omega, by go_num, by rw [S1.out], by rw [S2.out], below_drewN' HB.out _⟩, by simp [RowKit.intOf]; omega⟩
    · obtain rfl : k = ps.length := by omega
      rw [loT_all, hiT_all]
      go_wp2
      go_ret2
      exact ⟨rfl, HB.out⟩
set_option maxRecDepth 100000 in
set_option maxHeartbeats 1600000 in
theorem i_span1 (ps : List P2) (h1 : 1 ≤ ps.length) (h12 : ps.length ≤ 12) (v : Value) (w : World) (hv : Rw w v (ps.map rowOf)) :
    Calls Try.prog 89 #[v, .int .i64 1] w (Quiet w (.tuple #[.int .i64 (loM (·.2) ps), .int .i64 (hiM (·.2) ps)])) := by
  have HX := Lib.hid hv
  obtain ⟨va, vc, rfl, hvm, _⟩ := hv.shape
  rw [List.length_map] at HX hvm ⊢
  obtain ⟨b1, o1, x, rfl, hb2, hcell, hsx⟩ := HX.out.pt 0 h1
  rw [Nat.add_zero] at hcell
  obtain ⟨b3, o3, c3, rfl, hc3, hb3, r0, r1⟩ := row_cells hsx
  have hg0 : ps.getD 0 (0, 0) = ps[0] := by rw [List.getD_eq_getElem?_getD, List.getElem?_eq_getElem h1]; rfl
  rw [← hg0] at r0 r1
  obtain ⟨q, hq⟩ : ∃ q, ps.getD 0 (0, 0) = q := ⟨_, rfl⟩
  rw [hq] at r0 r1
  have T0 := Lib.hid (show loT (·.2) ps 0 = q.2 ∧ hiT (·.2) ps 0 = q.2 by unfold loT hiT; rw [hq]; exact ⟨rfl, rfl⟩)
  have i0 : (0 : Int) < (ps.length : Int) := by omega
  clear hv hsx hb2 hb3 hg0 hq
  go_enter Try.func89, Try.ntmps89
  go_wp2_with fail
  go_quiet (fail)
  go_wp2_with fail
  refine wgen ?_
  intro w1 hw1
  have HB1 := Lib.hid (show Below w.heap.size w w1 by rw [hw1]; exact below_drewN' (Below.refl _ _) _)
  clear hw1 hcell r0 r1
  go_loopw [24, 6, 7] (fun i lo hi wr => ∃ k : Nat, k ≤ ps.length ∧ i = .int .i64 k ∧ lo = .int .i64 (loT (·.2) ps k) ∧ hi = .int .i64 (hiT (·.2) ps k) ∧ Below w.heap.size w wr) (fun i _ _ _ => ps.length - (RowKit.intOf i).toNat)
  case atStart => exact ⟨0, Nat.zero_le _, rfl, by rw [T0.out.1], by rw [T0.out.2], HB1.out⟩
  case round =>
    obtain ⟨k, hk, rfl, rfl, rfl, hb⟩ := hrel
    have HB := Lib.hid hb
    clear hb
    by_cases hlt : k < ps.length
    · have i1 : (0 : Int) ≤ (k : Int) := by omega
      have i2 : (k : Int) < (ps.length : Int) := by omega
      obtain ⟨b4, o4, y, e4, hb4, hcell4, hs4⟩ := HX.out.pt k hlt
      simp only [Option.some.injEq, Addr.mk.injEq, and_true] at e4
      obtain ⟨rfl, rfl⟩ := e4
      obtain ⟨b5, o5, c5, rfl, hc5, hb5, q0, q1⟩ := row_cells hs4
      rw [← HB.out.cell (p := ⟨b1, o1 + k, none⟩) hb4] at hcell4
      rw [← HB.out.cell (p := ⟨b5, o5, none⟩) hb5] at q0
      rw [← HB.out.cell (p := ⟨b5, o5 + 1, none⟩) hb5] at q1
      have S1 := Lib.hid (loT_step (f := (·.2)) hlt)
      have S2 := Lib.hid (hiT_step (f := (·.2)) hlt)
      try simp only at S1 S2
      obtain ⟨z, hz⟩ : ∃ z, ps[k] = z := ⟨_, rfl⟩
      rw [hz] at q0 q1 S1 S2
      obtain ⟨lo, hlo⟩ : ∃ lo, loT (·.2) ps k = lo := ⟨_, rfl⟩
      obtain ⟨hi, hhi⟩ : ∃ hi, hiT (·.2) ps k = hi := ⟨_, rfl⟩
      rw [hlo] at S1 ⊢
      rw [hhi] at S2 ⊢
      clear hs4 hb4 hb5 hz hlo hhi
      go_wp2_with fail
      go_quiet (fail)
      go_wp2
      exact ⟨⟨k + 1, by omega, by go_num, by rw [S1.out], by rw [S2.out], below_drewN' HB.out _⟩, by simp [RowKit.intOf]; omega⟩
    · obtain rfl : k = ps.length := by omega
      rw [loT_all, hiT_all]
      go_wp2
      go_ret2
      exact ⟨rfl, HB.out⟩
set_option maxRecDepth 100000 in
set_option maxHeartbeats 6400000 in
theorem i_points (p : List (List Int)) (v : Value) (w : World) (hv : Rw w v p) :
    Calls Try.prog 43 #[v] w (MadeR w (pointsR p)) := by
  have HV := Lib.hid hv
  obtain ⟨va, vc, rfl, _, _⟩ := hv.shape
  clear hv
  by_cases h : polyR p = true
  case neg =>
    have HP := Lib.hid (bool_f h)
    have HE := Lib.hid (pointsR_no (p := p) (fun k => h k.1))
    clear h
    go_enter Try.func43, Try.ntmps43
    go_wp2_with fail
    refine (i_ispoly p _ _ HV.out).mono ?_
    rintro e w1 ⟨rfl, hb⟩
    rw [HP.out]
    have HB := Lib.hid hb
    clear hb
    go_wp2
    go_ret
    exact madeR_mk HE.out ⟨⟨_, rfl, OwR.nil⟩, HB.out⟩
  have HP := Lib.hid h
  have HAR := Lib.hid (show areaR p = areaL (sidesR p) from if_pos h)
  by_cases h2 : areaL (sidesR p) ≤ 2000
  case neg =>
    have HE := Lib.hid (pointsR_no (p := p) (fun k => h2 k.2))
    obtain ⟨A, hA⟩ : ∃ A, areaL (sidesR p) = A := ⟨_, rfl⟩
    rw [hA] at HAR h2
    have k1 : (2000 : Int) < A := by omega
    clear h h2 hA
    go_enter Try.func43, Try.ntmps43
    go_wp2_with fail
    refine (i_ispoly p _ _ HV.out).mono ?_
    rintro e w1 ⟨rfl, hb⟩
    rw [HP.out]
    have HB := Lib.hid hb
    clear hb
    go_wp2_with fail
    refine (i_areatwice p _ _ (HV.out.below HB.out)).mono ?_
    rintro e w2 ⟨rfl, hb2⟩
    rw [HAR.out]
    have HB2 := Lib.hid (HB.out.trans (hb2.mono HB.out.size))
    clear hb2
    go_wp2
    go_ret
    exact madeR_mk HE.out ⟨⟨_, rfl, OwR.nil⟩, HB2.out⟩
  have HE := Lib.hid (show pointsR p = (ptsP (p.map ptOf)).map rowOf from if_pos ⟨h, h2⟩)
  have HLP := Lib.hid (poly_len h)
  have HSB := Lib.hid (sides_bd (poly_bd h))
  have HPR := Lib.hid (poly_rows h)
  have BX := Lib.hid (poly_box h)
  have PL := Lib.hid (ptsP_len h)
  obtain ⟨A, hA⟩ : ∃ A, areaL (sidesR p) = A := ⟨_, rfl⟩
  rw [hA] at HAR h2
  have k1 : ¬ (2000 : Int) < A := by omega
  obtain ⟨ps, hps⟩ : ∃ ps, p.map ptOf = ps := ⟨_, rfl⟩
  rw [hps] at HE HLP HSB HPR BX PL
  clear h h2 hA hps
  obtain ⟨lo, hlo⟩ : ∃ lo, loM (·.2) ps = lo := ⟨_, rfl⟩
  obtain ⟨hi, hhi⟩ : ∃ hi, hiM (·.2) ps = hi := ⟨_, rfl⟩
  obtain ⟨la, hla⟩ : ∃ la, hiM (·.1) ps = la := ⟨_, rfl⟩
  obtain ⟨le, hle⟩ : ∃ le, loM (·.1) ps = le := ⟨_, rfl⟩
  obtain ⟨H, hH⟩ : ∃ H, wideN lo hi = H := ⟨_, rfl⟩
  obtain ⟨W, hW⟩ : ∃ W, wideN le la = W := ⟨_, rfl⟩
  have HPT := Lib.hid (show ptsP ps = colsP (sidesP ps) le lo H W by unfold ptsP; rw [hlo, hhi, hla, hle, hH, hW])
  have BY := BX.out
  rw [hlo, hhi, hla, hle] at BY
  have HS0 := Lib.hid (fun v w hv => i_span0 ps (by have := HLP.out; omega) (by have := HLP.out; omega) v w hv)
  have HS1 := Lib.hid (fun v w hv => i_span1 ps (by have := HLP.out; omega) (by have := HLP.out; omega) v w hv)
  rw [hle, hla] at HS0
  rw [hlo, hhi] at HS1
  unfold wideN at hH hW
  obtain ⟨⟨u1, u2⟩, ⟨u3, u4⟩, ⟨u5, u6⟩, u7, u8⟩ := BY
  clear hlo hhi hla hle
  go_enter Try.func43, Try.ntmps43
  go_wp2_with fail
  refine (i_ispoly p _ _ HV.out).mono ?_
  rintro e w1 ⟨rfl, hb⟩
  rw [HP.out]
  have HB1 := Lib.hid hb
  clear hb
  go_wp2_with fail
  refine (i_areatwice p _ _ (HV.out.below HB1.out)).mono ?_
  rintro e w2 ⟨rfl, hb2⟩
  rw [HAR.out]
  have HB2 := Lib.hid (HB1.out.trans (hb2.mono HB1.out.size))
  clear hb2
  go_wp2_with fail
  refine (i_sides ps HLP.out.2 _ _ (by rw [HPR.out]; exact HV.out.below HB2.out)).mono ?_
  rintro e w3 ⟨⟨g, c, rfl, hs⟩, hb3⟩
  have HS3 := Lib.hid hs
  have HB3 := Lib.hid (HB2.out.trans (hb3.mono HB2.out.size))
  clear hs hb3
  go_wp2_with fail
  refine (HS0.out _ _ (by rw [HPR.out]; exact HV.out.below HB3.out)).mono ?_
  rintro e w4 ⟨rfl, hb4⟩
  have HB4 := Lib.hid (HB3.out.trans (hb4.mono HB3.out.size))
  have HS4 := Lib.hid (HS3.out.below hb4)
  have Z4 := Lib.hid hb4.size
  clear hb4
  go_wp2_with fail
  refine (HS1.out _ _ (by rw [HPR.out]; exact HV.out.below HB4.out)).mono ?_
  rintro e w5 ⟨rfl, hb5⟩
  have HB5 := Lib.hid (HB4.out.trans (hb5.mono HB4.out.size))
  have HS5 := Lib.hid (HS4.out.below hb5)
  have Z5 := Lib.hid (show w3.heap.size ≤ w5.heap.size from Nat.le_trans Z4.out hb5.size)
  clear hb5
  go_wp2_with fail
  go_loopw [9, 3] (fun i o wr => ∃ n : Nat, n ≤ W ∧ i = .int .i64 (le + (n : Int)) ∧ OwP w5.heap.size wr.heap.size wr o (colsP (sidesP ps) le lo H n) ∧ Below w5.heap.size w5 wr) (fun i _ _ => (la + 1 - RowKit.intOf i).toNat)
  case atStart => exact ⟨0, Nat.zero_le _, by simp, OwE.nil, Below.refl _ _⟩
  case round =>
    obtain ⟨n, hn, rfl, ho, hb⟩ := hrel
    rename World => w6
    have HB6 := Lib.hid hb
    obtain ⟨oa, oc, rfl, hom, _⟩ := ho.shape
    have NL := Lib.hid (colsP_len (sidesP ps) le lo H (by omega) n)
    obtain ⟨kq, hkq⟩ : ∃ kq, (colsP (sidesP ps) le lo H n).length = kq := ⟨_, rfl⟩
    have HKQ := Lib.hid hkq
    rw [hkq] at ho ⊢
    have HO2 := Lib.hid ho
    clear ho hb hom hkq
    by_cases hx : le + (n : Int) ≤ la
    · have hnW : n < W := by omega
      have CS := Lib.hid (colsP_step (sidesP ps) le lo H n)
      obtain ⟨xx, hxx⟩ : ∃ xx, le + (n : Int) = xx := ⟨_, rfl⟩
      have HXX := Lib.hid hxx
      rw [hxx] at CS hx ⊢
      have hxb : -50 ≤ xx ∧ xx ≤ 50 := by omega
      obtain ⟨xb1, xb2⟩ := hxb
      clear hxx
      go_wp2_with fail
      go_loopw [10, 3] (fun i o wr => ∃ m : Nat, m ≤ H ∧ i = .int .i64 (lo + (m : Int)) ∧ OwP w5.heap.size wr.heap.size wr o (colsP (sidesP ps) le lo H n ++ colP (sidesP ps) xx lo m) ∧ Below w5.heap.size w5 wr) (fun i _ _ => (hi + 1 - RowKit.intOf i).toNat)
      case atStart => exact ⟨0, Nat.zero_le _, by simp, by simpa [colP] using HO2.out, HB6.out⟩
      case round =>
        obtain ⟨m, hm, rfl, ho, hb⟩ := hrel
        rename World => w7
        have HB7 := Lib.hid hb
        have ML := Lib.hid (colP_len (sidesP ps) xx lo m)
        have ML2 := Lib.hid (show (colsP (sidesP ps) le lo H n ++ colP (sidesP ps) xx lo m).length ≤ 101 * n + m by have := NL.out; have := ML.out; rw [List.length_append]; omega)
        obtain ⟨R, hR⟩ : ∃ R, colsP (sidesP ps) le lo H n ++ colP (sidesP ps) xx lo m = R := ⟨_, rfl⟩
        have HRR := Lib.hid hR
        rw [hR] at ho ML2
        obtain ⟨oa, oc, rfl, hom, _⟩ := ho.shape
        obtain ⟨kr, hkr⟩ : ∃ kr, R.length = kr := ⟨_, rfl⟩
        have HKR := Lib.hid hkr
        rw [hkr] at ho ML2 ⊢
        have HO3 := Lib.hid ho
        clear ho hb hom hR hkr
        by_cases hy : lo + (m : Int) ≤ hi
        · have hmH : m < H := by omega
          have PS := Lib.hid (colP_step (sidesP ps) xx lo m)
          obtain ⟨yy, hyy⟩ : ∃ yy, lo + (m : Int) = yy := ⟨_, rfl⟩
          have HYY := Lib.hid hyy
          rw [hyy] at PS hy ⊢
          obtain ⟨r, hr⟩ : ∃ r, placeL (sidesP ps) (xx, yy) = r := ⟨_, rfl⟩
          have HR := Lib.hid hr
          rw [hr] at PS
          have BP := Lib.hid (show BdP 1000 (xx, yy) by unfold BdP; simp only; omega)
          have KX := Lib.hid (Bk.new w7 #[.int .i64 xx, .int .i64 yy, .int .i64 0] 57)
          have b8 := below1 w7 (.cells #[.int .i64 xx, .int .i64 yy, .int .i64 0] 57)
          have HB8 := Lib.hid (HB7.out.trans (b8.mono HB7.out.size))
          obtain ⟨c0, c1, c2⟩ := bk3c KX.out
          have j9 : IntKind.i64.wrap (yy + 1) = yy + 1 := by rw [IntWalk.i64_in _ (by omega)]
          clear hyy hr
          go_wp2_with fail
          refine (i_beside (sidesP ps) (xx, yy) HSB.out BP.out (by rw [sidesP_len]; exact HLP.out.2) _ _ _ _ (HS5.out.below HB8.out)).mono ?_
          rintro e w9 ⟨rfl, hb9⟩
          rw [HR.out]
          have HB9 := Lib.hid (HB8.out.trans (hb9.mono HB8.out.size))
          have HO9 := Lib.hid (HO3.out.below (b8.trans (hb9.mono b8.size)))
          have KX9 := Lib.hid (KX.out.below hb9)
          have Z9 := Lib.hid (Nat.le_trans b8.size hb9.size)
          clear hb9 b8 c0 c1 c2
          obtain ⟨c0, c1, c2⟩ := bk3c KX9.out
          by_cases hr0 : 0 ≤ r
          · have PE := Lib.hid (show colP (sidesP ps) xx lo (m + 1) = colP (sidesP ps) xx lo m ++ [(xx, yy)] by rw [PS.out, if_pos hr0])
            go_wp2_with (at_builtin; go_must (refine list_app_np rfl _ _ rfl w5.heap.size w7.heap.size _ R (xx, yy) rfl (HO9.out.below (below1 w9 _)) _ rfl (heap_alloc_new _ _) (by have := ML2.out; rw [HKR.out]; omega) (by have := HB9.out.size; simp; omega) ?_; intro g10 c10 w10 ho10 hb10))
            have HO10 := Lib.hid ho10
            have B10 := Lib.hid (show Below w5.heap.size w5 w10 from (HB9.out.trans ((below1 w9 _).mono HB9.out.size)).trans ((Below.refl w5.heap.size _).grown hb10 (by have := HB9.out.size; simp; omega) (fun q hq => (HO9.out.1.lt q hq).1)))
            clear ho10 hb10
            go_wp2
            refine ⟨⟨m + 1, by omega, by have := HYY.out; simp; omega, ?_, B10.out⟩, by simp [RowKit.intOf]; omega⟩
            have h := HO10.out
            rw [PE.out, ← List.append_assoc, HRR.out]
            simpa using h
          · have PE := Lib.hid (show colP (sidesP ps) xx lo (m + 1) = colP (sidesP ps) xx lo m by rw [PS.out, if_neg hr0, List.append_nil])
            have k9 : decide (0 ≤ r) = false := decide_eq_false hr0
            go_wp2
            exact ⟨⟨m + 1, by omega, by have := HYY.out; simp; omega, by rw [PE.out, HRR.out]; exact HO9.out.mono (Nat.le_refl _) Z9.out, HB9.out⟩, by simp [RowKit.intOf]; omega⟩
        · obtain rfl : m = H := by omega
          have j9 : IntKind.i64.wrap (xx + 1) = xx + 1 := by rw [IntWalk.i64_in _ (by omega)]
          have h := HO3.out
          rw [← HRR.out, ← CS.out] at h
          have HF := Lib.hid h
          clear h
          go_wp2
          exact ⟨⟨n + 1, by omega, by have := HXX.out; simp; omega, HF.out, HB7.out⟩, by simp [RowKit.intOf]; omega⟩
    · obtain rfl : n = W := by omega
      have h := HO2.out
      rw [← HPT.out] at h
      have HF := Lib.hid h
      have HL9 := Lib.hid (show kq = (ptsP ps).length by rw [HPT.out, HKQ.out])
      rw [HL9.out]
      rw [HL9.out] at HF
      clear h
      go_wp2_with fail
      refine (i_plane2 (ptsP ps) (by have := PL.out; omega) w5.heap.size w6.heap.size _ w6 HF.out).mono ?_
      rintro e w7 ⟨⟨u, rfl, ho⟩, hb7⟩
      have HB7 := Lib.hid (HB5.out.trans ((HB6.out.mono HB5.out.size).trans (hb7.mono (Nat.le_trans HB5.out.size HB6.out.size))))
      have HO7 := Lib.hid (ho.mono (Nat.le_trans HB5.out.size HB6.out.size) (Nat.le_refl _))
      clear ho hb7
      go_wp2
      go_ret
      exact madeR_mk HE.out ⟨⟨_, rfl, HO7.out⟩, HB7.out⟩
end Go.Proofs.Ytckpifcdlmfabaa
