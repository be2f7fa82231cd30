/- The program's placeBeside, PlaceOf. -/
import Derived.Test.YtckpifcdlmfabaaPgZ2
namespace Go.Proofs.Ytckpifcdlmfabaa
open Go Go.RowKit Go.Lib

theorem cmp_sgn (t : Int) : cmpJ t 0 = sgnI t := rfl
theorem sgn_rng (t : Int) : -1 ≤ sgnI t ∧ sgnI t ≤ 1 := by
  unfold sgnI
  split
  · omega
  · split <;> omega
set_option maxRecDepth 100000 in
set_option maxHeartbeats 1600000 in
theorem i_beside (L : List S2) (x : P2) (hL : BdS L) (hx : BdP 1000 x) (h12 : L.length ≤ 12) (lo hi : Nat) (v : Value) (w : World) (hv : OwS lo hi w v L) :
    Calls Try.prog 87 #[v, ptV x] w (Quiet w (.int .i64 (placeL L x))) := by
  have HS := Lib.hid hv
  have HSB := Lib.hid hL
  have HXB := Lib.hid hx
  obtain ⟨a, c, rfl, hlc, _⟩ := hv.shape
  obtain ⟨x1, x2⟩ := x
  unfold ptV
  simp only
  have KX := Lib.hid (Bk.new w #[.int .i64 x1, .int .i64 x2, .int .i64 0] 57)
  have B0 := Lib.hid (below1 w (.cells #[.int .i64 x1, .int .i64 x2, .int .i64 0] 57))
  clear hv hL hx
  go_enter Try.func87, Try.ntmps87
  go_wp2_with fail
  go_loopw [10, 5] (fun i s wr => ∃ k : Nat, k ≤ L.length ∧ i = .int .i64 k ∧ s = .int .i64 (placeL (L.take k) (x1, x2)) ∧ Below (w.heap.size + 1) (w.alloc (.cells #[.int .i64 x1, .int .i64 x2, .int .i64 0] 57)) wr) (fun i _ _ => L.length - (RowKit.intOf i).toNat)
  case atStart => exact ⟨0, Nat.zero_le _, rfl, rfl, Below.refl _ _⟩
  case round =>
    obtain ⟨k, hk, rfl, rfl, hbr⟩ := hrel
    have HBR := Lib.hid hbr
    have HS1 := Lib.hid (show w.heap.size + 1 ≤ wr.heap.size by have := hbr.size; simpa using this)
    have HA := Lib.hid (B0.out.trans (hbr.mono (by omega)))
    have KX1 := Lib.hid (show Bk wr w.heap.size #[.int .i64 x1, .int .i64 x2, .int .i64 0] 57 from (hbr.block _ (Nat.lt_succ_self _)).trans KX.out)
    clear hbr
    by_cases hlt : k < L.length
    · have i1 : (0 : Int) ≤ (k : Int) := by omega
      have i2 : (k : Int) < (L.length : Int) := by omega
      obtain ⟨b, rfl, -, -, hb2, ⟨q0, q1, q2, q3, q4, q5⟩, -⟩ := HS.out.at6 k hlt rfl
      rw [← HA.out.cell (p := ⟨b, k * 6, none⟩) hb2] at q0
      rw [← HA.out.cell (p := ⟨b, k * 6 + 1, none⟩) hb2] at q1
      rw [← HA.out.cell (p := ⟨b, k * 6 + 2, none⟩) hb2] at q2
      rw [← HA.out.cell (p := ⟨b, k * 6 + 3, none⟩) hb2] at q3
      rw [← HA.out.cell (p := ⟨b, k * 6 + 4, none⟩) hb2] at q4
      rw [← HA.out.cell (p := ⟨b, k * 6 + 5, none⟩) hb2] at q5
      have AT := Lib.hid (place_take (x1, x2) hlt)
      have bd := HSB.out L[k] (List.getElem_mem hlt)
      obtain ⟨s, hs⟩ : ∃ s, L[k] = s := ⟨_, rfl⟩
      rw [hs] at q0 q1 q3 q4 AT bd
      obtain ⟨⟨y1, y2⟩, ⟨z1, z2⟩⟩ := s
      simp only at q0 q1 q3 q4 bd AT
      have BD := Lib.hid bd
      obtain ⟨t, ht⟩ : ∃ t, turnP (y1, y2) (z1, z2) (x1, x2) = t := ⟨_, rfl⟩
      have HT := Lib.hid ht
      rw [ht] at AT
      obtain ⟨sm, hsm⟩ : ∃ sm, placeL (L.take k) (x1, x2) = sm := ⟨_, rfl⟩
      rw [hsm] at AT ⊢
      obtain ⟨cr, hcr⟩ : ∃ cr, sgnI t = cr := ⟨_, rfl⟩
      rw [hcr] at AT
      have HCR := Lib.hid hcr
      have KY := Lib.hid (Bk.new wr #[.int .i64 y1, .int .i64 y2, .int .i64 0, .int .i64 z1, .int .i64 z2, .int .i64 0] 88)
      have BY := Lib.hid (below1 wr (.cells #[.int .i64 y1, .int .i64 y2, .int .i64 0, .int .i64 z1, .int .i64 z2, .int .i64 0] 88))
      obtain ⟨c0, c1, c2⟩ := bk3c (KX1.out.below BY.out)
      clear hs ht hsm hcr bd hb2
      go_wp2_with fail
      refine (i_turn (y1, y2) (z1, z2) (x1, x2) BD.out.1 BD.out.2 HXB.out _).mono ?_
      rintro e w3 ⟨rfl, hb3⟩
      rw [HT.out]
      have HB3 := Lib.hid (HBR.out.trans ((BY.out.mono HS1.out).trans (hb3.mono (Nat.le_trans HS1.out BY.out.size))))
      clear hb3 c0 c1 c2
      go_wp2_with fail
      refine (i_ccmpP t 0 _).mono ?_
      rintro e w4 ⟨rfl, rfl⟩
      rw [cmp_sgn, HCR.out]
      go_wp2
      exact ⟨⟨k + 1, by omega, by go_num, by rw [AT.out], HB3.out⟩, by simp [RowKit.intOf]; omega⟩
    · obtain rfl : k = L.length := by omega
      rw [List.take_length]
      go_wp2
      go_ret
      exact ⟨rfl, HA.out⟩
theorem pt_splice {x : List Int} (h : x.length = 2) : splice [Value.int .i64 0, .int .i64 0, .int .i64 0] 0 (intVals x) = [.int .i64 (ptOf x).1, .int .i64 (ptOf x).2, .int .i64 0] := by
  match x, h with
  | [a, b], _ => rfl
theorem isV_pt {x : List Int} (h : (isV x && decide (x.length = 2)) = true) : isV x = true ∧ x.length = 2 ∧ BdP 1000 (ptOf x) := by
  rw [Bool.and_eq_true] at h
  have h2 := of_decide_eq_true h.2
  have h3 := (isV_t h.1).2.2
  refine ⟨h.1, h2, ?_⟩
  match x, h2 with
  | [a, b], _ =>
    have h4 := small_get h3 0 (by simp)
    have h5 := small_get h3 1 (by simp)
    exact ⟨h4, h5⟩
theorem placeR_no {p : List (List Int)} {x : List Int} (h : ¬ (polyR p = true ∧ (isV x && decide (x.length = 2)) = true)) : placeR p x = -1 := by
  unfold placeR
  rw [if_neg]
  rintro ⟨h1, h2, h3⟩
  exact h ⟨h1, by rw [h2, decide_eq_true h3]; rfl⟩
set_option maxRecDepth 100000 in
set_option maxHeartbeats 1600000 in
theorem i_placeof (p : List (List Int)) (x : List Int) (v u : Value) (w : World) (hv : Rw w v p) (hu : Sl w u (intVals x)) :
    Calls Try.prog 40 #[v, u] w (Quiet w (.int .i64 (placeR p x))) := by
  have HV := Lib.hid hv
  have HU := Lib.hid hu
  obtain ⟨va, vc, rfl, _, _⟩ := hv.shape
  obtain ⟨ua, uc, rfl, _, _⟩ := hu.shape
  clear hv hu
  by_cases h : polyR p = true
  case neg =>
    have HP := Lib.hid (bool_f h)
    refine (quiet_cast (placeR_no (fun k => h k.1)) ?_)
    clear h
    go_enter Try.func40, Try.ntmps40
    go_wp2_with fail
    refine (i_ispoly p _ _ HV.out).mono ?_
    rintro e w1 ⟨rfl, hb⟩
    rw [HP.out]
    have HB := Lib.hid hb
    clear hb
    go_wp2
    go_ret
    exact ⟨rfl, HB.out⟩
  have HP := Lib.hid h
  by_cases h2 : (isV x && decide (x.length = 2)) = true
  case neg =>
    have HQ := Lib.hid (bool_f h2)
    refine (quiet_cast (placeR_no (fun k => h2 k.2)) ?_)
    clear h h2
    go_enter Try.func40, Try.ntmps40
    go_wp2_with fail
    refine (i_ispoly p _ _ HV.out).mono ?_
    rintro e w1 ⟨rfl, hb⟩
    rw [HP.out]
    have HB := Lib.hid hb
    clear hb
    go_wp2_with fail
    refine (i_plane x _ _ (HU.out.below HB.out)).mono ?_
    rintro e w2 ⟨rfl, hb⟩
    rw [HQ.out]
    have HB2 := Lib.hid (HB.out.trans (hb.mono HB.out.size))
    clear hb
    go_wp2
    go_ret
    exact ⟨rfl, HB2.out⟩
  have HQ := Lib.hid h2
  have HX := Lib.hid (isV_pt h2)
  refine (quiet_cast (show placeR p x = placeL (sidesR p) (ptOf x) from if_pos ⟨h, HX.out.1, HX.out.2.1⟩) ?_)
  have HLP := Lib.hid (poly_len h)
  have HSB := Lib.hid (sides_bd (poly_bd h))
  have HPR := Lib.hid (poly_rows h)
  have HSP := Lib.hid (pt_splice HX.out.2.1)
  obtain ⟨r, hr⟩ : ∃ r, placeL (sidesR p) (ptOf x) = r := ⟨_, rfl⟩
  have HR := Lib.hid hr
  rw [hr]
  clear h h2 hr
  go_enter Try.func40, Try.ntmps40
  go_wp2_with fail
  refine (i_ispoly p _ _ HV.out).mono ?_
  rintro e w1 ⟨rfl, hb⟩
  rw [HP.out]
  have HB := Lib.hid hb
  clear hb
  go_wp2_with fail
  refine (i_plane x _ _ (HU.out.below HB.out)).mono ?_
  rintro e w2 ⟨rfl, hb⟩
  rw [HQ.out]
  have HB2 := Lib.hid (HB.out.trans (hb.mono HB.out.size))
  clear hb
  go_wp2_with fail
  refine (i_sides (p.map ptOf) HLP.out.2 _ _ (by rw [HPR.out]; exact HV.out.below HB2.out)).mono ?_
  rintro e w3 ⟨⟨g, c, rfl, hs⟩, hb3⟩
  have HS := Lib.hid hs
  have HB3 := Lib.hid (HB2.out.trans (hb3.mono HB2.out.size))
  clear hs hb3
  go_wp2_with fail
  refine (i_num x (ptOf x).1 (ptOf x).2 0 HSP.out (by have := HX.out.2.1; omega) (by have := HX.out.2.1; omega) _ _ (HU.out.below HB3.out)).mono ?_
  rintro e w4 ⟨rfl, hb4⟩
  have HB4 := Lib.hid (HB3.out.trans (hb4.mono HB3.out.size))
  have HS4 := Lib.hid (HS.out.below hb4)
  clear hb4
  go_wp2_with fail
  refine (i_beside (sidesP (p.map ptOf)) (ptOf x) HSB.out HX.out.2.2 (by rw [sidesP_len]; exact HLP.out.2) _ _ _ _ HS4.out).mono ?_
  rintro e w5 ⟨rfl, hb5⟩
  rw [show placeL (sidesP (p.map ptOf)) (ptOf x) = r from HR.out]
  have HB5 := Lib.hid (HB4.out.trans (hb5.mono HB4.out.size))
  clear hb5
  go_wp2
  go_ret
  exact ⟨rfl, HB5.out⟩
end Go.Proofs.Ytckpifcdlmfabaa
