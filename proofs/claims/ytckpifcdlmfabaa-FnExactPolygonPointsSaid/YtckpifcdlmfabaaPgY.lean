/- The model's AreaTwice, BoundaryCount, InnerCount, PlaceOf. -/
import Derived.Test.YtckpifcdlmfabaaPgX
namespace Go.Proofs.Ytckpifcdlmfabaa
open Go.RowKit Go.Lib

theorem poly_rows {p : List (List Int)} (h : polyR p = true) : (p.map ptOf).map rowOf = p := by
  have hf := (polyR_shape h).2.2
  rw [List.map_map]
  refine (List.map_congr_left fun v hv => ?_).trans (List.map_id _)
  exact row_pt (flatR_t hf v hv).1
theorem poly_bd {p : List (List Int)} (h : polyR p = true) : ∀ q ∈ p.map ptOf, BdP 50 q := flat_pt (polyR_shape h).2.2
theorem poly_len {p : List (List Int)} (h : polyR p = true) : 3 ≤ (p.map ptOf).length ∧ (p.map ptOf).length ≤ 12 := by
  have := polyR_shape h
  rw [List.length_map]
  exact ⟨this.1, this.2.1⟩
def sidesR (p : List (List Int)) : List S2 := sidesP (p.map ptOf)
def areaR (p : List (List Int)) : Int := if polyR p = true then areaL (sidesR p) else -1
def boundR (p : List (List Int)) : Int := if polyR p = true then boundL (sidesR p) else -1
def innerR (p : List (List Int)) : Int := if polyR p = true then (areaL (sidesR p) - boundL (sidesR p) + 2).tdiv 2 else -1
def placeR (p : List (List Int)) (x : List Int) : Int := if polyR p = true ∧ isV x = true ∧ x.length = 2 then placeL (sidesR p) (ptOf x) else -1
theorem quiet_cast {f : FuncId} {vs : Array Value} {w : World} {a b : Int} (h : a = b) (g : Calls Try.prog f vs w (Quiet w (.int .i64 b))) : Calls Try.prog f vs w (Quiet w (.int .i64 a)) := by subst h; exact g
theorem area_all {p : List (List Int)} (h : polyR p = true) : -60000 ≤ areaL (sidesR p) ∧ areaL (sidesR p) ≤ 60000 := by
  have h1 := area_bd (sides_bd (poly_bd h)) (sidesP (p.map ptOf)).length (Nat.le_refl _)
  rw [List.take_length, sidesP_len] at h1
  have := poly_len h
  unfold sidesR
  omega
theorem bound_all {p : List (List Int)} (h : polyR p = true) : 0 ≤ boundL (sidesR p) ∧ boundL (sidesR p) ≤ 1200 := by
  have h1 := bound_bd (sides_bd (poly_bd h)) (sidesP (p.map ptOf)).length (Nat.le_refl _)
  rw [List.take_length, sidesP_len] at h1
  have := poly_len h
  unfold sidesR
  omega
set_option maxRecDepth 100000 in
set_option maxHeartbeats 800000 in
theorem s_areatwice (p : List (List Int)) (v : Value) (w : World) (hv : Rw w v p) :
    Calls Try.prog 32 #[v] w (Quiet w (.int .i64 (areaR p))) := by
  have HV := Lib.hid hv
  obtain ⟨va, vc, rfl, _, _⟩ := hv.shape
  clear hv
  by_cases h : polyR p = true
  · have HP := Lib.hid h
    refine (quiet_cast (show areaR p = areaL (sidesR p) from if_pos h) ?_)
    clear h
    go_enter Try.func32, Try.ntmps32
    go_wp2_with fail
    refine (s_ispoly p _ _ HV.out).mono ?_
    rintro e w1 ⟨rfl, hb⟩
    rw [HP.out]
    have HB := Lib.hid hb
    go_wp2_with fail
    refine (s_area (p.map ptOf) (poly_len HP.out).2 (poly_bd HP.out) _ _ (by rw [poly_rows HP.out]; exact HV.out.below hb)).mono ?_
    rintro e w2 ⟨rfl, hb2⟩
    have HB2 := Lib.hid (HB.out.trans (hb2.mono HB.out.size))
    clear hb hb2
    go_wp2
    go_ret
    exact ⟨rfl, HB2.out⟩
  · have HP := Lib.hid (bool_f h)
    refine (quiet_cast (show areaR p = -1 from if_neg h) ?_)
    clear h
    go_enter Try.func32, Try.ntmps32
    go_wp2_with fail
    refine (s_ispoly p _ _ HV.out).mono ?_
    rintro e w1 ⟨rfl, hb⟩
    rw [HP.out]
    have HB := Lib.hid hb
    clear hb
    go_wp2
    go_ret
    exact ⟨rfl, HB.out⟩
set_option maxRecDepth 100000 in
set_option maxHeartbeats 1600000 in
theorem s_bound (p : List (List Int)) (v : Value) (w : World) (hv : Rw w v p) :
    Calls Try.prog 34 #[v] w (Quiet w (.int .i64 (boundR p))) := by
  have HV := Lib.hid hv
  obtain ⟨va, vc, rfl, _, _⟩ := hv.shape
  clear hv
  by_cases h : polyR p = true
  case neg =>
    have HP := Lib.hid (bool_f h)
    refine (quiet_cast (show boundR p = -1 from if_neg h) ?_)
    clear h
    go_enter Try.func34, Try.ntmps34
    go_wp2_with fail
    refine (s_ispoly p _ _ HV.out).mono ?_
    rintro e w1 ⟨rfl, hb⟩
    rw [HP.out]
    have HB := Lib.hid hb
    clear hb
    go_wp2
    go_ret
    exact ⟨rfl, HB.out⟩
  have HP := Lib.hid h
  refine (quiet_cast (show boundR p = boundL (sidesR p) from if_pos h) ?_)
  have HLP := Lib.hid (poly_len h)
  have BB := Lib.hid (bound_bd (sides_bd (poly_bd h)))
  have hl9 : p.length = (p.map ptOf).length := by rw [List.length_map]
  obtain ⟨ps, hps⟩ : ∃ ps, p.map ptOf = ps := ⟨_, rfl⟩
  have HPS := Lib.hid hps
  unfold sidesR
  have HPB := Lib.hid (poly_bd h)
  have HPR := Lib.hid (poly_rows h)
  rw [hps] at HLP BB hl9 HPB HPR ⊢
  rw [hl9] at HV ⊢
  clear h hl9 hps
  have hl12 := HLP.out.2
  go_enter Try.func34, Try.ntmps34
  go_wp2_with fail
  refine (s_ispoly p _ _ HV.out).mono ?_
  rintro e w1 ⟨rfl, hb⟩
  rw [HP.out]
  have HB1 := Lib.hid hb
  clear hb
  go_wp2_with fail
  go_loopw [3, 4] (fun s i wr => ∃ k : Nat, k ≤ ps.length ∧ i = .int .i64 k ∧ s = .int .i64 (boundL ((sidesP ps).take k)) ∧ Below w.heap.size w wr) (fun _ i _ => ps.length - (RowKit.intOf i).toNat)
  case atStart => exact ⟨0, Nat.zero_le _, rfl, rfl, HB1.out⟩
  case round =>
    obtain ⟨k, hk, rfl, rfl, hbr⟩ := hrel
    rename World => w2
    have HA := Lib.hid hbr
    clear hbr
    by_cases hlt : k < ps.length
    · have i1 : (0 : Int) ≤ (k : Int) := by omega
      have i2 : (k : Int) < (ps.length : Int) := by omega
      have hsl : k < (sidesP ps).length := by rw [sidesP_len]; exact hlt
      have AT := Lib.hid (bound_take hsl)
      rw [sidesP_get] at AT
      have b1 := BB.out k (by rw [sidesP_len]; omega)
      have b2 := BB.out (k + 1) (by rw [sidesP_len]; omega)
      rw [AT.out] at b2
      obtain ⟨sm, hs⟩ : ∃ sm, boundL ((sidesP ps).take k) = sm := ⟨_, rfl⟩
      obtain ⟨cr, hc⟩ : ∃ cr, stepS (sideP ps k) = cr := ⟨_, rfl⟩
      have HC := Lib.hid hc
      rw [hs] at AT b1 b2 ⊢
      rw [hc] at AT b2
      have j8 : IntKind.i64.wrap (sm + cr) = sm + cr := by rw [IntWalk.i64_in _ (by omega)]
      clear hsl hs hc
      go_wp2_with fail
      refine (s_side ps hl12 HPB.out k hlt _ _ (by rw [HPR.out]; exact HV.out.below HA.out)).mono ?_
      rintro e w3 ⟨rfl, hb3⟩
      rw [HC.out]
      have HB3 := Lib.hid (HA.out.trans (hb3.mono HA.out.size))
      clear hb3
      go_wp2
      exact ⟨⟨k + 1, by omega, by go_num, by rw [AT.out], HB3.out⟩, by simp [RowKit.intOf]; omega⟩
    · obtain rfl : k = ps.length := by omega
      have E := Lib.hid (show boundL ((sidesP ps).take ps.length) = boundL (sidesP ps) by rw [List.take_of_length_le (by rw [sidesP_len]; omega)])
      rw [E.out]
      go_wp2
      go_ret
      exact ⟨rfl, HA.out⟩
set_option maxRecDepth 100000 in
set_option maxHeartbeats 800000 in
theorem s_inner (p : List (List Int)) (v : Value) (w : World) (hv : Rw w v p) :
    Calls Try.prog 36 #[v] w (Quiet w (.int .i64 (innerR p))) := by
  have HV := Lib.hid hv
  obtain ⟨va, vc, rfl, _, _⟩ := hv.shape
  clear hv
  by_cases h : polyR p = true
  · have HP := Lib.hid h
    have h1 := area_all h
    have h2 := bound_all h
    refine (quiet_cast (show innerR p = (areaL (sidesR p) - boundL (sidesR p) + 2).tdiv 2 from if_pos h) ?_)
    have HE := Lib.hid (show boundR p = boundL (sidesR p) from if_pos h)
    have HS := Lib.hid (s_area (p.map ptOf) (poly_len h).2 (poly_bd h))
    rw [show areaL (sidesP (p.map ptOf)) = areaL (sidesR p) from rfl] at HS
    obtain ⟨A, hA⟩ : ∃ A, areaL (sidesR p) = A := ⟨_, rfl⟩
    obtain ⟨B, hB⟩ : ∃ B, boundL (sidesR p) = B := ⟨_, rfl⟩
    rw [hA] at h1 HS ⊢
    rw [hB] at h2 HE ⊢
    have j1 : IntKind.i64.wrap (A - B) = A - B := by rw [IntWalk.i64_in _ (by omega)]
    have j2 : IntKind.i64.wrap (A - B + 2) = A - B + 2 := by rw [IntWalk.i64_in _ (by omega)]
    have j3 : IntKind.i64.wrap ((A - B + 2).tdiv 2) = (A - B + 2).tdiv 2 := IntWalk.i64_in _ (by have h3 := Int.natAbs_tdiv_le_natAbs (A - B + 2) 2; generalize (A - B + 2).tdiv 2 = t at h3; omega)
    clear h hA hB h1 h2
    go_enter Try.func36, Try.ntmps36
    go_wp2_with fail
    refine (s_ispoly p _ _ HV.out).mono ?_
    rintro e w1 ⟨rfl, hb⟩
    rw [HP.out]
    have HB := Lib.hid hb
    clear hb
    go_wp2_with fail
    refine (HS.out _ _ (by rw [poly_rows HP.out]; exact HV.out.below HB.out)).mono ?_
    rintro e w2 ⟨rfl, hb2⟩
    have HB2 := Lib.hid (HB.out.trans (hb2.mono HB.out.size))
    clear hb2
    go_wp2_with fail
    refine (s_bound p _ _ (HV.out.below HB2.out)).mono ?_
    rintro e w3 ⟨rfl, hb3⟩
    rw [HE.out]
    have HB3 := Lib.hid (HB2.out.trans (hb3.mono HB2.out.size))
    clear hb3
    go_wp2
    go_ret
    exact ⟨rfl, HB3.out⟩
  · have HP := Lib.hid (bool_f h)
    refine (quiet_cast (show innerR p = -1 from if_neg h) ?_)
    clear h
    go_enter Try.func36, Try.ntmps36
    go_wp2_with fail
    refine (s_ispoly p _ _ HV.out).mono ?_
    rintro e w1 ⟨rfl, hb⟩
    rw [HP.out]
    have HB := Lib.hid hb
    clear hb
    go_wp2
    go_ret
    exact ⟨rfl, HB.out⟩
end Go.Proofs.Ytckpifcdlmfabaa
