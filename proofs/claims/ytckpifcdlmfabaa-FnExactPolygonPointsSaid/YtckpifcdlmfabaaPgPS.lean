/- The model's whole points of a polygon. -/
import Derived.Test.YtckpifcdlmfabaaPgPM
import Derived.Test.YtckpifcdlmfabaaPgX3
namespace Go.Proofs.Ytckpifcdlmfabaa
open Go.RowKit Go.Lib

set_option maxRecDepth 100000 in
theorem s_minP (x y : Int) (w : World) : Calls Try.prog 125 #[.int .i64 x, .int .i64 y] w fun e w' => e = .returned (.int .i64 (min x y)) ∧ w = w' := by
  by_cases h : x < y
  · have e := Lib.hid (show min x y = x by omega)
    go_enter Try.func125, Try.ntmps125
    go_wp2
    go_ret
    exact ⟨ret_int e.out.symm, rfl⟩
  · have e := Lib.hid (show min x y = y by omega)
    go_enter Try.func125, Try.ntmps125
    go_wp2
    go_ret
    exact ⟨ret_int e.out.symm, rfl⟩
theorem sl_pair {w : World} {B : Nat} {x y : Int} {T : TypeId} (hb : Bk w B #[.int .i64 x, .int .i64 y] T) : Sl w (.slice (some ⟨B, 0, none⟩) 2 2) (intVals (rowOf (x, y))) := by
  refine .inr ⟨by simp [intVals, rowOf], B, 0, 2, by simp [intVals, rowOf], by simp [intVals, rowOf], by simp [intVals, rowOf, maxLen], hb.lt, fun i u hi => ?_⟩
  match i, hi with
  | 0, hi => obtain rfl := Option.some.inj hi; exact hb.cell 0 rfl
  | 1, hi => obtain rfl := Option.some.inj hi; exact hb.cell 1 rfl
  | _ + 2, hi => simp [intVals, rowOf] at hi
theorem own_pair (w : World) (x y : Int) (o : Obj) : OwnV 3 w.heap.size ((w.alloc (.cells #[.int .i64 x, .int .i64 y] 3)).alloc o).heap.size ((w.alloc (.cells #[.int .i64 x, .int .i64 y] 3)).alloc o) (.slice (some ⟨w.heap.size, 0, none⟩) 2 2) (intVals (rowOf (x, y))) := by
  refine .inr ⟨w.heap.size, 2, #[.int .i64 x, .int .i64 y], by simp [intVals, rowOf], Nat.le_refl _, by simp; omega, ?_, by simp [intVals, rowOf], by unfold maxLen; omega, rfl, rfl⟩
  rw [Below.heap_alloc _ _ _ (by simp)]
  exact heap_alloc_new w _
set_option maxRecDepth 100000 in
set_option maxHeartbeats 6400000 in
theorem s_points (ps : List P2) (h1 : 1 ≤ ps.length) (h12 : ps.length ≤ 12) (hbd : ∀ p ∈ ps, BdP 50 p) (hlo : loM (·.1) ps = (ps.getD 0 (0, 0)).1) (v : Value) (w : World) (hv : Rw w v (ps.map rowOf)) :
    Calls Try.prog 88 #[v] w (MadeR w ((ptsP ps).map rowOf)) := by
  have HX := Lib.hid hv
  obtain ⟨va, vc, rfl, hvm, _⟩ := hv.shape
  rw [List.length_map] at HX hvm ⊢
  have HBD := Lib.hid hbd
  have HLO := Lib.hid hlo
  have B0 := Lib.hid (below1 w (.cells #[] 46))
  obtain ⟨b1, o1, x, rfl, hb2, hcell, hsx⟩ := HX.out.pt 0 h1
  rw [Nat.add_zero] at hcell
  obtain ⟨b3, o3, c3, rfl, _, hb3, r0, r1⟩ := row_cells hsx
  have hc0 := (B0.out.cell (p := ⟨b1, o1, none⟩) hb2).trans hcell
  have hr0 := (B0.out.cell (p := ⟨b3, o3, none⟩) hb3).trans r0
  have hr1 := (B0.out.cell (p := ⟨b3, o3 + 1, none⟩) hb3).trans r1
  have hg0 : ps.getD 0 (0, 0) = ps[0] := by rw [List.getD_eq_getElem?_getD, List.getElem?_eq_getElem h1]; rfl
  rw [← hg0] at hr0 hr1
  obtain ⟨q, hq⟩ : ∃ q, ps.getD 0 (0, 0) = q := ⟨_, rfl⟩
  have HQ := Lib.hid hq
  rw [hq] at hr0 hr1 HLO
  have T0 := Lib.hid (show loT (·.2) ps 0 = q.2 ∧ hiT (·.2) ps 0 = q.2 ∧ hiT (·.1) ps 0 = q.1 by unfold loT hiT; rw [hq]; exact ⟨rfl, rfl, rfl⟩)
  have BX := Lib.hid (show (-50 ≤ loM (·.1) ps ∧ loM (·.1) ps ≤ 50) ∧ (-50 ≤ loM (·.2) ps ∧ loM (·.2) ps ≤ 50) ∧ (-50 ≤ hiM (·.1) ps ∧ hiM (·.1) ps ≤ 50) ∧ (-50 ≤ hiM (·.2) ps ∧ hiM (·.2) ps ≤ 50) from by
    have h0 := getD_bd h1 hbd
    exact ⟨loM_bd _ _ h0.1 fun q hq => (hbd q hq).1, loM_bd _ _ h0.2 fun q hq => (hbd q hq).2, hiM_bd _ _ h0.1 fun q hq => (hbd q hq).1, hiM_bd _ _ h0.2 fun q hq => (hbd q hq).2⟩)
  have i0 : (0 : Int) < (ps.length : Int) := by omega
  clear hv hbd hlo hcell hsx hb2 hb3 r0 r1 hg0 hq
  go_enter Try.func88, Try.ntmps88
  go_wp2
  go_loopw [4, 5, 6, 7] (fun lo hi la i wr => ∃ k : Nat, k ≤ ps.length ∧ i = .int .i64 k ∧ lo = .int .i64 (loT (·.2) ps k) ∧ hi = .int .i64 (hiT (·.2) ps k) ∧ la = .int .i64 (hiT (·.1) ps k) ∧ wr = w.alloc (.cells #[] 46)) (fun _ _ _ i _ => ps.length - (RowKit.intOf i).toNat)
  case atStart => exact ⟨0, Nat.zero_le _, rfl, by rw [T0.out.1], by rw [T0.out.2.1], by rw [T0.out.2.2], rfl⟩
  case round =>
    obtain ⟨k, hk, rfl, rfl, rfl, rfl, rfl⟩ := hrel
    by_cases hlt : k < ps.length
    · have i1 : (0 : Int) ≤ (k : Int) := by omega
      have i2 : (k : Int) < (ps.length : Int) := by omega
      obtain ⟨b4, o4, y, e4, hb4, hcell4, hs4⟩ := HX.out.pt k hlt
      simp only [Option.some.injEq, Addr.mk.injEq, and_true] at e4
      obtain ⟨rfl, rfl⟩ := e4
      obtain ⟨b5, o5, c5, rfl, _, hb5, q0, q1⟩ := row_cells hs4
      have hc4 := (B0.out.cell (p := ⟨b1, o1 + k, none⟩) hb4).trans hcell4
      have hq0 := (B0.out.cell (p := ⟨b5, o5, none⟩) hb5).trans q0
      have hq1 := (B0.out.cell (p := ⟨b5, o5 + 1, none⟩) hb5).trans q1
      have S1 := Lib.hid (loT_step (f := (·.2)) hlt)
      have S2 := Lib.hid (hiT_step (f := (·.2)) hlt)
      have S3 := Lib.hid (hiT_step (f := (·.1)) hlt)
      try simp only at S1 S2 S3
      obtain ⟨z, hz⟩ : ∃ z, ps[k] = z := ⟨_, rfl⟩
      rw [hz] at hq0 hq1 S1 S2 S3
      clear hs4 hcell4 hb4 hb5 q0 q1 hz hc0 hr0 hr1
      go_wp2_with fail
      refine (s_minP _ _ _).mono ?_
      rintro e w1 ⟨rfl, rfl⟩
      rw [← S1.out]
      go_wp2_with fail
      refine (s_max _ _ _).mono ?_
      rintro e w1 ⟨rfl, rfl⟩
      rw [← S2.out]
      go_wp2_with fail
      refine (s_max _ _ _).mono ?_
      rintro e w1 ⟨rfl, rfl⟩
      rw [← S3.out]
      go_wp2
      exact ⟨⟨k + 1, by omega, by go_num, by simp⟩, by simp [RowKit.intOf]; omega⟩
    · obtain rfl : k = ps.length := by omega
      rw [loT_all, hiT_all, hiT_all]
      obtain ⟨lo, hlo⟩ : ∃ lo, loM (·.2) ps = lo := ⟨_, rfl⟩
      obtain ⟨hi, hhi⟩ : ∃ hi, hiM (·.2) ps = hi := ⟨_, rfl⟩
      obtain ⟨la, hla⟩ : ∃ la, hiM (·.1) ps = la := ⟨_, rfl⟩
      obtain ⟨le, hle⟩ : ∃ le, q.1 = le := ⟨_, rfl⟩
      obtain ⟨H, hH⟩ : ∃ H, wideN lo hi = H := ⟨_, rfl⟩
      obtain ⟨W, hW⟩ : ∃ W, wideN le la = W := ⟨_, rfl⟩
      have HPT := Lib.hid (show ptsP ps = colsP (sidesP ps) le lo H W by unfold ptsP; rw [HLO.out, hlo, hhi, hla, hle, hH, hW])
      have BY := BX.out
      rw [HLO.out, hlo, hhi, hla, hle] at BY
      rw [hle] at hr0
      rw [hlo, hhi, hla]
      unfold wideN at hH hW
      obtain ⟨⟨u1, u2⟩, ⟨u3, u4⟩, ⟨u5, u6⟩, u7, u8⟩ := BY
      have HH := Lib.hid hH
      have HW := Lib.hid hW
      have W0 := Lib.hid B0.out.size
      have OB := Lib.hid (owr_none0 (T := 46) (e := 3) (owns_none (e := 46) (Nat.le_refl w.heap.size)))
      clear hlo hhi hla hle
      go_wp2_with fail
      go_loopw [8, 3] (fun i o wr => ∃ n : Nat, n ≤ W ∧ i = .int .i64 (le + (n : Int)) ∧ OwR 46 3 w.heap.size wr.heap.size wr o ((colsP (sidesP ps) le lo H n).map rowOf) ∧ Below w.heap.size w wr) (fun i _ _ => (la + 1 - RowKit.intOf i).toNat)
      case atStart => exact ⟨0, Nat.zero_le _, by simp, OB.out, B0.out⟩
      case round =>
        obtain ⟨n, hn, rfl, ho, hb⟩ := hrel
        rename World => w2
        have HB2 := Lib.hid hb
        obtain ⟨oa, oc, rfl, hom, _⟩ := ho.rw.shape
        have NL := Lib.hid (colsP_len (sidesP ps) le lo H (by omega) n)
        obtain ⟨kq, hkq⟩ : ∃ kq, ((colsP (sidesP ps) le lo H n).map rowOf).length = kq := ⟨_, rfl⟩
        rw [hkq] at ho ⊢
        have HO2 := Lib.hid ho
        clear ho hb hom hkq
        by_cases hx : le + (n : Int) ≤ la
        · have hnW : n < W := by omega
          have CS := Lib.hid (colsP_step (sidesP ps) le lo H n)
          obtain ⟨xx, hxx⟩ : ∃ xx, le + (n : Int) = xx := ⟨_, rfl⟩
          have HXX := Lib.hid hxx
          rw [hxx] at CS hx ⊢
          have hxb : -50 ≤ xx ∧ xx ≤ 50 := by omega
          obtain ⟨xb1, xb2⟩ := hxb
          clear hxx
          go_wp2_with fail
          go_loopw [9, 3] (fun i o wr => ∃ m : Nat, m ≤ H ∧ i = .int .i64 (lo + (m : Int)) ∧ OwR 46 3 w.heap.size wr.heap.size wr o ((colsP (sidesP ps) le lo H n ++ colP (sidesP ps) xx lo m).map rowOf) ∧ Below w.heap.size w wr) (fun i _ _ => (hi + 1 - RowKit.intOf i).toNat)
          case atStart => exact ⟨0, Nat.zero_le _, by simp, by simpa [colP] using HO2.out, HB2.out⟩
          case round =>
            obtain ⟨m, hm, rfl, ho, hb⟩ := hrel
            rename World => w3
            have HB3 := Lib.hid hb
            have ML := Lib.hid (colP_len (sidesP ps) xx lo m)
            have ML2 := Lib.hid (show ((colsP (sidesP ps) le lo H n ++ colP (sidesP ps) xx lo m).map rowOf).length ≤ 101 * n + m by have := NL.out; have := ML.out; rw [List.length_map, List.length_append]; omega)
            obtain ⟨R, hR⟩ : ∃ R, (colsP (sidesP ps) le lo H n ++ colP (sidesP ps) xx lo m).map rowOf = R := ⟨_, rfl⟩
            have HRR := Lib.hid hR
            rw [hR] at ho ML2
            obtain ⟨oa, oc, rfl, hom, _⟩ := ho.rw.shape
            obtain ⟨kr, hkr⟩ : ∃ kr, R.length = kr := ⟨_, rfl⟩
            have HKR := Lib.hid hkr
            rw [hkr] at ho ML2 ⊢
            have HO3 := Lib.hid ho
            clear ho hb hom hR hkr
            by_cases hy : lo + (m : Int) ≤ hi
            · have hmH : m < H := by omega
              have PS := Lib.hid (colP_step (sidesP ps) xx lo m)
              obtain ⟨yy, hyy⟩ : ∃ yy, lo + (m : Int) = yy := ⟨_, rfl⟩
              have HYY := Lib.hid hyy
              rw [hyy] at PS hy ⊢
              obtain ⟨r, hr⟩ : ∃ r, placeL (sidesP ps) (xx, yy) = r := ⟨_, rfl⟩
              have HR := Lib.hid hr
              rw [hr] at PS
              have BP := Lib.hid (show BdP 1000 (xx, yy) by unfold BdP; simp only; omega)
              have KR := Lib.hid (sl_pair (Bk.new w3 #[.int .i64 xx, .int .i64 yy] 3))
              have b4 := below1 w3 (.cells #[.int .i64 xx, .int .i64 yy] 3)
              have HB4 := Lib.hid (HB3.out.trans (b4.mono HB3.out.size))
              have j9 : IntKind.i64.wrap (yy + 1) = yy + 1 := by rw [IntWalk.i64_in _ (by omega)]
              clear hyy hr
              go_wp2_with fail
              refine (s_place ps (xx, yy) h12 HBD.out BP.out _ _ _ (HX.out.below HB4.out) KR.out).mono ?_
              rintro e w5 ⟨rfl, hb5⟩
              rw [HR.out]
              have HB5 := Lib.hid (HB4.out.trans (hb5.mono HB4.out.size))
              have HO5 := Lib.hid (HO3.out.below (b4.trans (hb5.mono b4.size)))
              have Z5 := Lib.hid (Nat.le_trans b4.size hb5.size)
              clear hb5 b4
              by_cases hr0' : 0 ≤ r
              · have PE := Lib.hid (show colP (sidesP ps) xx lo (m + 1) = colP (sidesP ps) xx lo m ++ [(xx, yy)] by rw [PS.out, if_pos hr0'])
                go_wp2_with (at_builtin; go_must (refine list_app_row rfl _ _ rfl w.heap.size w5.heap.size _ (.slice (some ⟨w5.heap.size, 0, none⟩) 2 2) R (rowOf (xx, yy)) rfl ((HO5.out.mono (Nat.le_refl _) Z5.out).below (below2 w5 _ _)) (own_pair w5 xx yy _) _ rfl (by have h := heap_alloc_new (w5.alloc (.cells #[.int .i64 xx, .int .i64 yy] 3)) (.cells #[Value.slice (some ⟨w5.heap.size, 0, none⟩) 2 2] 46); simpa using h) (by have := ML2.out; rw [HKR.out]; omega) HB5.out.size (by simp; omega) ?_; intro g8 c8 w8 ho8 hb8))
                have HO8 := Lib.hid ho8
                have HB8 := Lib.hid (HB5.out.trans ((((below2 w5 _ _).mono HB5.out.size)).trans hb8))
                clear ho8 hb8
                go_wp2
                refine ⟨⟨m + 1, by omega, by have := HYY.out; simp; omega, ?_, HB8.out⟩, by simp [RowKit.intOf]; omega⟩
                have h := HO8.out
                rw [PE.out, ← List.append_assoc, List.map_append, HRR.out]
                simpa using h
              · have PE := Lib.hid (show colP (sidesP ps) xx lo (m + 1) = colP (sidesP ps) xx lo m by rw [PS.out, if_neg hr0', List.append_nil])
                have k9 : decide (0 ≤ r) = false := decide_eq_false hr0'
                go_wp2
                exact ⟨⟨m + 1, by omega, by have := HYY.out; simp; omega, by rw [PE.out, HRR.out]; exact HO5.out.mono (Nat.le_refl _) Z5.out, HB5.out⟩, by simp [RowKit.intOf]; omega⟩
            · obtain rfl : m = H := by omega
              have j9 : IntKind.i64.wrap (xx + 1) = xx + 1 := by rw [IntWalk.i64_in _ (by omega)]
              have h := HO3.out
              rw [← HRR.out, ← CS.out] at h
              have HF := Lib.hid h
              clear h
              go_wp2
              exact ⟨⟨n + 1, by omega, by have := HXX.out; simp; omega, HF.out, HB3.out⟩, by simp [RowKit.intOf]; omega⟩
        · obtain rfl : n = W := by omega
          have h := HO2.out
          rw [← HPT.out] at h
          have HF := Lib.hid h
          clear h
          go_wp2
          go_ret
          exact ⟨⟨_, rfl, HF.out⟩, HB2.out⟩
theorem madeR_ck {w : World} {r r' : List (List Int)} {e : Ending} {w' : World} (h : r' = r) (g : MadeR w r e w') : MadeR w r' e w' := by subst h; exact g
theorem pointsR_ck {p : List (List Int)} (h : ¬ (polyR p = true ∧ areaL (sidesR p) ≤ 2000)) : pointsR p = [] := if_neg h
set_option maxRecDepth 100000 in
set_option maxHeartbeats 800000 in
theorem s_ppoints (p : List (List Int)) (v : Value) (w : World) (hv : Rw w v p) :
    Calls Try.prog 42 #[v] w (MadeR w (pointsR p)) := by
  have HV := Lib.hid hv
  obtain ⟨va, vc, rfl, _, _⟩ := hv.shape
  clear hv
  by_cases h : polyR p = true
  case neg =>
    have HP := Lib.hid (bool_f h)
    have HE := Lib.hid (pointsR_ck (p := p) (fun k => h k.1))
    clear h
    go_enter Try.func42, Try.ntmps42
    go_wp2_with fail
    refine (s_ispoly p _ _ HV.out).mono ?_
    rintro e w1 ⟨rfl, hb⟩
    rw [HP.out]
    have HB := Lib.hid hb
    clear hb
    go_wp2
    go_ret
    exact madeR_ck HE.out ⟨⟨_, rfl, owr_none0 (owns_none HB.out.size)⟩, HB.out.trans ((below1 _ _).mono HB.out.size)⟩
  have HP := Lib.hid h
  have HS := Lib.hid (s_area (p.map ptOf) (poly_len h).2 (poly_bd h))
  rw [show areaL (sidesP (p.map ptOf)) = areaL (sidesR p) from rfl] at HS
  have HPR := Lib.hid (poly_rows h)
  by_cases h2 : areaL (sidesR p) ≤ 2000
  case neg =>
    have HE := Lib.hid (pointsR_ck (p := p) (fun k => h2 k.2))
    obtain ⟨A, hA⟩ : ∃ A, areaL (sidesR p) = A := ⟨_, rfl⟩
    rw [hA] at HS h2
    have k1 : (2000 : Int) < A := by omega
    clear h h2 hA
    go_enter Try.func42, Try.ntmps42
    go_wp2_with fail
    refine (s_ispoly p _ _ HV.out).mono ?_
    rintro e w1 ⟨rfl, hb⟩
    rw [HP.out]
    have HB := Lib.hid hb
    clear hb
    go_wp2_with fail
    refine (HS.out _ _ (by rw [HPR.out]; exact HV.out.below HB.out)).mono ?_
    rintro e w2 ⟨rfl, hb2⟩
    have HB2 := Lib.hid (HB.out.trans (hb2.mono HB.out.size))
    clear hb2
    go_wp2
    go_ret
    exact madeR_ck HE.out ⟨⟨_, rfl, owr_none0 (owns_none HB2.out.size)⟩, HB2.out.trans ((below1 _ _).mono HB2.out.size)⟩
  have HE := Lib.hid (show pointsR p = (ptsP (p.map ptOf)).map rowOf from if_pos ⟨h, h2⟩)
  have HLP := Lib.hid (poly_len h)
  have HPB := Lib.hid (poly_bd h)
  have HLO := Lib.hid (lo_poly h)
  obtain ⟨A, hA⟩ : ∃ A, areaL (sidesR p) = A := ⟨_, rfl⟩
  rw [hA] at HS h2
  have k1 : ¬ (2000 : Int) < A := by omega
  clear h h2 hA
  go_enter Try.func42, Try.ntmps42
  go_wp2_with fail
  refine (s_ispoly p _ _ HV.out).mono ?_
  rintro e w1 ⟨rfl, hb⟩
  rw [HP.out]
  have HB := Lib.hid hb
  clear hb
  go_wp2_with fail
  refine (HS.out _ _ (by rw [HPR.out]; exact HV.out.below HB.out)).mono ?_
  rintro e w2 ⟨rfl, hb2⟩
  have HB2 := Lib.hid (HB.out.trans (hb2.mono HB.out.size))
  clear hb2
  go_wp2_with fail
  refine (s_points (p.map ptOf) (by have := HLP.out; omega) HLP.out.2 HPB.out HLO.out _ _ (by rw [HPR.out]; exact HV.out.below HB2.out)).mono ?_
  rintro e w3 ⟨⟨u, rfl, ho⟩, hb3⟩
  have HO := Lib.hid (ho.mono HB2.out.size (Nat.le_refl _))
  have HB3 := Lib.hid (HB2.out.trans (hb3.mono HB2.out.size))
  clear ho hb3
  go_wp2
  go_ret
  exact madeR_ck HE.out ⟨⟨_, rfl, HO.out⟩, HB3.out⟩
end Go.Proofs.Ytckpifcdlmfabaa
