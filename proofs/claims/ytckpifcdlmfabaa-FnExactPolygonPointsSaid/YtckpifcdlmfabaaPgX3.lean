/- The model's l7Place, PlaceOf. -/
import Derived.Test.YtckpifcdlmfabaaPgY
namespace Go.Proofs.Ytckpifcdlmfabaa
open Go.RowKit Go.Lib

set_option maxRecDepth 100000 in
set_option maxHeartbeats 1600000 in
theorem s_place (ps : List P2) (x : P2) (h12 : ps.length ≤ 12) (hbd : ∀ p ∈ ps, BdP 50 p) (hxb : BdP 1000 x) (v u : Value) (w : World) (hv : Rw w v (ps.map rowOf)) (hu : Sl w u (intVals (rowOf x))) :
    Calls Try.prog 85 #[v, u] w (Quiet w (.int .i64 (placeL (sidesP ps) x))) := by
  have HX := Lib.hid hv
  have HU := Lib.hid hu
  have HXB := Lib.hid hxb
  obtain ⟨va, vc, rfl, hvm, _⟩ := hv.shape
  obtain ⟨ua, uc, rfl, _⟩ := hu.shape
  rw [List.length_map] at HX hvm ⊢
  have HBD := Lib.hid hbd
  clear hv hbd hu hxb
  go_enter Try.func85, Try.ntmps85
  go_wp2
  go_loopw [5, 6] (fun s i wr => ∃ k : Nat, k ≤ ps.length ∧ i = .int .i64 k ∧ s = .int .i64 (placeL ((sidesP ps).take k) x) ∧ 0 ≤ placeL ((sidesP ps).take k) x ∧ Below w.heap.size w wr) (fun _ i _ => ps.length - (RowKit.intOf i).toNat)
  case atStart => exact ⟨0, Nat.zero_le _, rfl, rfl, by simp [placeL], Below.refl _ _⟩
  case round =>
    obtain ⟨k, hk, rfl, rfl, hz, hbr⟩ := hrel
    rename World => w2
    have HA := Lib.hid hbr
    by_cases hlt : k < ps.length
    · have i1 : (0 : Int) ≤ (k : Int) := by omega
      have i2 : (k : Int) < (ps.length : Int) := by omega
      obtain ⟨nx, hnx⟩ : ∃ nx, (k + 1) % ps.length = nx := ⟨_, rfl⟩
      have hxl : nx < ps.length := by rw [← hnx]; exact Nat.mod_lt _ (by omega)
      have HSD := Lib.hid (side_at hlt hnx hxl)
      have j1 : IntKind.i64.wrap ((k : Int) + 1) = (k : Int) + 1 := by rw [IntWalk.i64_in _ (by omega)]
      have j2 : Int.tmod ((k : Int) + 1) (ps.length : Int) = (nx : Int) := by rw [mod_next, hnx]
      have j3 : ¬ (ps.length : Int) = 0 := by omega
      have j4 : ((ps.length : Int) == 0) = false := beq_eq_false_iff_ne.2 j3
      have j9 : ¬ ps = [] := fun e => by rw [e] at hlt; simp at hlt
      have j5 : IntKind.i64.wrap (nx : Int) = (nx : Int) := by rw [IntWalk.i64_in _ (by omega)]
      have j6 : (0 : Int) ≤ (nx : Int) := by omega
      have j7 : (nx : Int) < (ps.length : Int) := by omega
      obtain ⟨b1, o1, y, rfl, hb2, hcell, hsx⟩ := HX.out.pt k hlt
      obtain ⟨b2, o2, z, e2, _, hcell', hsy⟩ := HX.out.pt nx hxl
      simp only [Option.some.injEq, Addr.mk.injEq, and_true] at e2
      obtain ⟨rfl, rfl⟩ := e2
      rw [← HA.out.cell (p := ⟨b1, o1 + k, none⟩) hb2] at hcell
      rw [← HA.out.cell (p := ⟨b1, o1 + nx, none⟩) hb2] at hcell'
      have QX := Lib.hid hsx
      have QY := Lib.hid hsy
      obtain ⟨xa, xc, rfl, _⟩ := hsx.shape
      obtain ⟨ya, yc, rfl, _⟩ := hsy.shape
      have h1 : b1 < w2.heap.size := Nat.lt_of_lt_of_le hb2 hbr.size
      have CB := Lib.hid (show BdP 50 ps[k] ∧ BdP 50 ps[nx] from ⟨HBD.out ps[k] (List.getElem_mem _), HBD.out ps[nx] (List.getElem_mem _)⟩)
      have hsl : k < (sidesP ps).length := by rw [sidesP_len]; exact hlt
      have AT := Lib.hid (place_take x hsl)
      have AO := Lib.hid (place_out (l := sidesP ps) x hsl)
      rw [sidesP_get, HSD.out] at AT AO
      have hr := place_rng ((sidesP ps).take k) x
      obtain ⟨p, hp⟩ : ∃ p, ps[k] = p := ⟨_, rfl⟩
      obtain ⟨q, hq⟩ : ∃ q, ps[nx] = q := ⟨_, rfl⟩
      rw [hp, hq] at AT AO CB
      rw [hp] at QX hcell
      rw [hq] at QY hcell'
      obtain ⟨sm, hs⟩ : ∃ sm, placeL ((sidesP ps).take k) x = sm := ⟨_, rfl⟩
      rw [hs] at AT hr hz ⊢
      obtain ⟨t, ht⟩ : ∃ t, turnP p q x = t := ⟨_, rfl⟩
      simp only [ht] at AT AO
      have HT := Lib.hid ht
      have hbr : Below w2.heap.size w2 w2 := Below.refl _ _
      have HRG := Lib.hid (And.intro hz hr.2)
      clear hsx hsy hb2 hnx hsl hs hp hq ht hz hr
      go_wp2_with fail
      go_region_held3 (fun w' => w'.cell? ⟨b1, o1 + k, none⟩ = some (.slice xa (intVals (rowOf p)).length xc) ∧ w'.cell? ⟨b1, o1 + nx, none⟩ = some (.slice ya (intVals (rowOf q)).length yc) ∧ Below w2.heap.size w2 w')
        (first
          | with_reducible exact keepP2 hcell hcell' hbr
          | (go_split_ands; with_reducible exact keepQ2 h1 h1 (by assumption) (by assumption) (by assumption) (by assumption))
          | go_keep)
        (first | (go_at_call 111; refine (s_turn7 p q x CB.out.1 CB.out.2 HXB.out _ _ _ _ (QX.out.below HA.out.drew) (QY.out.below HA.out.drew) (HU.out.below HA.out.drew)).mono ?_; rintro e w3 ⟨rfl, hb3⟩; rw [HT.out]))
      rename_i hH
      have HB1 := Lib.hid (HA.out.trans (hH.2.2.mono HA.out.size))
      clear hH hbr hcell hcell'
      by_cases ht : t < 0
      · have E := Lib.hid (AO.out ht)
        go_wp2
        go_ret
        exact ⟨by rw [E.out]; rfl, HB1.out⟩
      · by_cases ht0 : t = 0
        · subst ht0
          have E := Lib.hid (show placeL ((sidesP ps).take (k + 1)) x = 0 by rw [AT.out]; have := HRG.out; unfold sgnI; rw [if_pos rfl]; omega)
          go_wp2
          exact ⟨⟨k + 1, by omega, by go_num, by rw [E.out], by rw [E.out]; exact Int.le_refl _, HB1.out⟩, by simp [RowKit.intOf]; omega⟩
        · have E := Lib.hid (show placeL ((sidesP ps).take (k + 1)) x = sm by rw [AT.out]; have := HRG.out; unfold sgnI; rw [if_neg ht0, if_neg ht]; omega)
          have k1 : (t == 0) = false := beq_eq_false_iff_ne.2 ht0
          have k2 : decide (t = 0) = false := decide_eq_false ht0
          have k3 : decide (t < 0) = false := decide_eq_false ht
          go_wp2
          exact ⟨⟨k + 1, by omega, by go_num, by rw [E.out], by rw [E.out]; exact HRG.out.1, HB1.out⟩, by simp [RowKit.intOf]; omega⟩
    · obtain rfl : k = ps.length := by omega
      have E := Lib.hid (show placeL ((sidesP ps).take ps.length) x = placeL (sidesP ps) x by rw [List.take_of_length_le (by rw [sidesP_len]; omega)])
      rw [E.out]
      clear hbr
      go_wp2
      go_ret
      exact ⟨rfl, HA.out⟩
theorem placeR_f {p : List (List Int)} {x : List Int} (h : ¬ (polyR p = true ∧ isV x = true ∧ x.length = 2)) : placeR p x = -1 := if_neg h
theorem pt_bd {x : List Int} (h : isV x = true) (h2 : x.length = 2) : BdP 1000 (ptOf x) := by
  have h3 := (isV_t h).2.2
  match x, h2 with
  | [a, b], _ =>
    have h4 := small_get h3 0 (by simp)
    have h5 := small_get h3 1 (by simp)
    exact ⟨h4, h5⟩
set_option maxRecDepth 100000 in
set_option maxHeartbeats 1600000 in
theorem s_placeof (p : List (List Int)) (x : List Int) (v u : Value) (w : World) (hv : Rw w v p) (hu : Sl w u (intVals x)) :
    Calls Try.prog 38 #[v, u] w (Quiet w (.int .i64 (placeR p x))) := by
  have HV := Lib.hid hv
  have HU := Lib.hid hu
  obtain ⟨va, vc, rfl, _, _⟩ := hv.shape
  obtain ⟨ua, uc, rfl, hum, _⟩ := hu.shape
  rw [intVals_len] at HU hum ⊢
  unfold maxLen at hum
  clear hv hu
  by_cases h : polyR p = true
  case neg =>
    have HP := Lib.hid (bool_f h)
    refine (quiet_cast (placeR_f (fun k => h k.1)) ?_)
    clear h
    go_enter Try.func38, Try.ntmps38
    go_wp2_with fail
    refine (s_ispoly p _ _ HV.out).mono ?_
    rintro e w1 ⟨rfl, hb⟩
    rw [HP.out]
    have HB := Lib.hid hb
    clear hb
    go_wp2
    go_ret
    exact ⟨rfl, HB.out⟩
  have HP := Lib.hid h
  by_cases h2 : isV x = true
  case neg =>
    have HQ := Lib.hid (bool_f h2)
    refine (quiet_cast (placeR_f (fun k => h2 k.2.1)) ?_)
    clear h h2
    go_enter Try.func38, Try.ntmps38
    go_wp2_with fail
    refine (s_ispoly p _ _ HV.out).mono ?_
    rintro e w1 ⟨rfl, hb⟩
    rw [HP.out]
    have HB := Lib.hid hb
    clear hb
    go_wp2_with fail
    refine (s_isv x _ _ (HU.out.below HB.out)).mono ?_
    rintro e w2 ⟨rfl, hb⟩
    rw [HQ.out]
    have HB2 := Lib.hid (HB.out.trans (hb.mono HB.out.size))
    clear hb
    go_wp2
    go_ret
    exact ⟨rfl, HB2.out⟩
  have HQ := Lib.hid h2
  by_cases h3 : x.length = 2
  case neg =>
    have k1 : ((x.length : Int) != 2) = true := by rw [bne_iff_ne]; omega
    have k2 : ((x.length : Int) == 2) = false := by rw [beq_eq_false_iff_ne]; omega
    have k3 : ¬ (x.length : Int) = 2 := by omega
    refine (quiet_cast (placeR_f (fun k => h3 k.2.2)) ?_)
    clear h h2
    go_enter Try.func38, Try.ntmps38
    go_wp2_with fail
    refine (s_ispoly p _ _ HV.out).mono ?_
    rintro e w1 ⟨rfl, hb⟩
    rw [HP.out]
    have HB := Lib.hid hb
    clear hb
    go_wp2_with fail
    refine (s_isv x _ _ (HU.out.below HB.out)).mono ?_
    rintro e w2 ⟨rfl, hb⟩
    rw [HQ.out]
    have HB2 := Lib.hid (HB.out.trans (hb.mono HB.out.size))
    clear hb
    go_wp2
    go_ret
    exact ⟨rfl, HB2.out⟩
  refine (quiet_cast (show placeR p x = placeL (sidesR p) (ptOf x) from if_pos ⟨h, h2, h3⟩) ?_)
  have HLP := Lib.hid (poly_len h)
  have HPB := Lib.hid (poly_bd h)
  have HPR := Lib.hid (poly_rows h)
  have HXB := Lib.hid (pt_bd h2 h3)
  have HRX := Lib.hid (row_pt h3)
  obtain ⟨r, hr⟩ : ∃ r, placeL (sidesR p) (ptOf x) = r := ⟨_, rfl⟩
  have HR := Lib.hid hr
  rw [hr]
  have HU2 := Lib.hid (show Sl w (.slice ua 2 uc) (intVals x) by have h := HU.out; rwa [h3] at h)
  rw [h3] at HU ⊢
  clear h h2 hr hum h3
  go_enter Try.func38, Try.ntmps38
  go_wp2_with fail
  refine (s_ispoly p _ _ HV.out).mono ?_
  rintro e w1 ⟨rfl, hb⟩
  rw [HP.out]
  have HB := Lib.hid hb
  clear hb
  go_wp2_with fail
  refine (s_isv x _ _ (HU2.out.below HB.out)).mono ?_
  rintro e w2 ⟨rfl, hb⟩
  rw [HQ.out]
  have HB2 := Lib.hid (HB.out.trans (hb.mono HB.out.size))
  clear hb
  go_wp2_with fail
  refine (s_place (p.map ptOf) (ptOf x) HLP.out.2 HPB.out HXB.out _ _ _ (by rw [HPR.out]; exact HV.out.below HB2.out) (by rw [HRX.out]; exact HU2.out.below HB2.out)).mono ?_
  rintro e w5 ⟨rfl, hb5⟩
  rw [show placeL (sidesP (p.map ptOf)) (ptOf x) = r from HR.out]
  have HB5 := Lib.hid (HB2.out.trans (hb5.mono HB2.out.size))
  clear hb5
  go_wp2
  go_ret
  exact ⟨rfl, HB5.out⟩
end Go.Proofs.Ytckpifcdlmfabaa
