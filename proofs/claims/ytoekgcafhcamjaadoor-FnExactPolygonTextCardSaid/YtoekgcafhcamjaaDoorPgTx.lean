/- A polygon's text, both sides. -/
import Derived.Test.YtoekgcafhcamjaaDoorMat
import Derived.Test.YtoekgcafhcamjaaDoorTxt
namespace Go.Proofs.YtoekgcafhcamjaaDoor
open Go.RowKit Go.Lib

def texts (p : List (List Int)) : List ByteArray := p.map fun v => ⟨(textL v).toArray⟩
theorem texts_len (p : List (List Int)) : (texts p).length = p.length := by simp [texts]
theorem texts_take {p : List (List Int)} {k : Nat} (h : k < p.length) : texts (p.take (k + 1)) = texts (p.take k) ++ [⟨(textL p[k]).toArray⟩] := by
  unfold texts
  rw [List.take_succ_eq_append_getElem h, List.map_append]; rfl
theorem textL_two {v : List Int} (hv : W64 v) (h : v.length = 2) : (textL v).length ≤ 44 := by
  have h1 := join_len [44] (numerals v)
  have h2 := numerals_sizes v hv
  rw [numerals_len, h] at h1
  rw [h] at h2
  unfold textL
  simp only [List.length_singleton] at h1
  omega
theorem flat_w64 {p : List (List Int)} (h : flatR p = true) : ∀ v ∈ p, W64 v ∧ v.length = 2 ∧ isV v = true := by
  intro v hv
  obtain ⟨h1, h2⟩ := flatR_t h v hv
  exact ⟨(small_bd h2).w64 (by omega), h1, by rw [isV_mk (by omega) (by omega)]; exact small_wide h2⟩
theorem texts_sizes : ∀ (p : List (List Int)), (∀ v ∈ p, W64 v ∧ v.length = 2 ∧ isV v = true) → sizes (texts p) ≤ 44 * p.length
  | [], _ => by simp [sizes, texts]
  | x :: r, h => by
    have hx := h x (List.mem_cons_self ..)
    have ih := texts_sizes r (fun v hv => h v (List.mem_cons_of_mem _ hv))
    have h2 := textL_two hx.1 hx.2.1
    have e : sizes (texts (x :: r)) = (textL x).toArray.size + sizes (texts r) := rfl
    rw [e, List.length_cons, List.size_toArray]
    omega
/-- What PolygonText answers. -/
def polyT (p : List (List Int)) : List UInt8 := if polyR p = true then jn [32] (texts p) else []
theorem polyT_len (p : List (List Int)) : (polyT p).length ≤ 700 := by
  unfold polyT
  split
  · rename_i h
    have hs := polyR_shape h
    have h1 := join_len [32] (texts p)
    have h2 := texts_sizes p (flat_w64 hs.2.2)
    rw [texts_len] at h1
    simp only [List.length_singleton] at h1
    omega
  · simp
theorem textV_of {v : List Int} (h : isV v = true) : textV v = textL v := if_pos h
set_option maxRecDepth 100000 in
set_option maxHeartbeats 800000 in
theorem s_polytext (p : List (List Int)) (v : Value) (w : World) (hv : Rw w v p) :
    Calls Tryd.prog 5 #[v] w (Quiet w (.string ⟨(polyT p).toArray⟩)) := by
  have HV := Lib.hid hv
  obtain ⟨va, vc, rfl, hvm, _⟩ := hv.shape
  clear hv
  by_cases h : polyR p = true
  case neg =>
    have HP := Lib.hid (bool_f h)
    have ER := Lib.hid (show polyT p = [] from if_neg h)
    clear h
    go_enter Tryd.func5, Tryd.ntmps5
    go_wp2_with fail
    refine (s_ispoly p _ _ HV.out).mono ?_
    rintro e w1 ⟨rfl, hb⟩
    rw [HP.out]
    have HB := Lib.hid hb
    clear hb
    go_wp2
    go_ret
    exact ⟨ret_str ER.out.symm, HB.out⟩
  have HP := Lib.hid h
  have ER := Lib.hid (show polyT p = jn [32] (texts p) from if_pos h)
  have HS := Lib.hid (polyR_shape h)
  have HW6 := Lib.hid (flat_w64 (polyR_shape h).2.2)
  have hl12 := HS.out.2.1
  clear h
  go_enter Tryd.func5, Tryd.ntmps5
  go_wp2_with fail
  refine (s_ispoly p _ _ HV.out).mono ?_
  rintro e w0 ⟨rfl, hb⟩
  rw [HP.out]
  have HB0 := Lib.hid hb
  clear hb
  go_wp2_with fail
  go_loopw [3, 4] (fun o i wr => ∃ k : Nat, k ≤ p.length ∧ i = .int .i64 k ∧ wr.ownsRow w0.heap.size 9 1 o k (strVals (texts (p.take k))) ∧ Below w0.heap.size w0 wr) (fun _ i _ => p.length - (RowKit.intOf i).toNat)
  case atStart => exact ⟨0, Nat.zero_le _, rfl, owns_empty (Nat.le_refl _), (Below.refl _ _).alloc (Nat.le_refl _) _⟩
  case round =>
    obtain ⟨k, hk, rfl, how, hbr⟩ := hrel
    rename World => wr
    have HW := Lib.hid how
    have HB := Lib.hid hbr
    have HA := Lib.hid (HB0.out.trans (hbr.mono HB0.out.size))
    clear how hbr
    by_cases hlt : k < p.length
    · have i1 : (0 : Int) ≤ (k : Int) := by omega
      have i2 : (k : Int) < (p.length : Int) := by omega
      obtain ⟨b, off, x, rfl, hb2, hcell, hsx⟩ := HV.out.cells k hlt
      rw [← HA.out.cell (p := ⟨b, off + k, none⟩) hb2] at hcell
      have HX := Lib.hid (hsx.below HA.out)
      obtain ⟨xa, xc, rfl, _⟩ := hsx.shape
      have NT := Lib.hid (texts_take hlt)
      have HK := Lib.hid (HW6.out p[k] (List.getElem_mem hlt))
      have hk' : k ≤ 1099511627776 := by omega
      clear hsx
      go_wp2_with fail
      refine (s_l2text p[k] HK.out.1 (by have := HK.out.2.1; omega) _ _ HX.out).mono ?_
      rintro e w1 ⟨rfl, hb1⟩
      have HB1 := Lib.hid (HB.out.trans (hb1.mono HB.out.size))
      have HW1 := Lib.hid (owns_below HW.out hb1)
      clear hb1 hcell
      have C3 := Lib.hid (show w0.heap.size ≤ (w1.alloc (.cells #[.string ⟨(textL p[k]).toArray⟩] 9)).heap.size by rw [World.size_alloc]; exact Nat.le_succ_of_le HB1.out.size)
      go_wp2_with (at_builtin; refine list_app_str rfl _ _ rfl w0.heap.size _ k (texts (p.take k)) _ rfl (HW1.out.alloc _) w1.heap.size rfl (heap_alloc_new w1 _) hk' C3.out ?_; intro v' w2 hown1 hbel; have HO1 := Lib.hid hown1; have HB2 := Lib.hid ((HB1.out.alloc HB1.out.size _).trans hbel); clear hown1 hbel)
      refine ⟨⟨k + 1, by omega, by go_num, ?_, HB2.out⟩, by simp [RowKit.intOf]; omega⟩
      rw [NT.out]
      exact HO1.out
    · obtain rfl : k = p.length := by omega
      have HZ := Lib.hid (texts_sizes p HW6.out)
      have HN := Lib.hid (texts_len p)
      have hw := HW.out
      rw [List.take_length] at hw
      have HW2 := Lib.hid (Sl.of_owns hw)
      clear hw
      go_wp2_with fail
      refine (sjoin (texts p) ⟨#[32]⟩ _ _ HW2.out (by rw [HN.out]; omega) (by show 1 ≤ 1048576; omega) (by have := HZ.out; omega)).mono ?_
      rintro e w1 ⟨rfl, hb1⟩
      have HB1 := Lib.hid (HA.out.trans (hb1.mono HA.out.size))
      clear hb1
      go_wp2_with fail
      go_ret
      exact ⟨ret_str ER.out.symm, HB1.out⟩
set_option maxRecDepth 100000 in
set_option maxHeartbeats 800000 in
theorem i_polytext (p : List (List Int)) (v : Value) (w : World) (hx : HasPow w) (hv : Rw w v p) :
    Calls Tryd.prog 7 #[v] w (Quiet w (.string ⟨(polyT p).toArray⟩)) := by
  have HV := Lib.hid hv
  have HXP := Lib.hid hx
  obtain ⟨va, vc, rfl, hvm, _⟩ := hv.shape
  clear hv hx
  by_cases h : polyR p = true
  case neg =>
    have HP := Lib.hid (bool_f h)
    have ER := Lib.hid (show polyT p = [] from if_neg h)
    clear h
    go_enter Tryd.func7, Tryd.ntmps7
    go_wp2_with fail
    refine (i_ispoly p _ _ HV.out).mono ?_
    rintro e w1 ⟨rfl, hb⟩
    rw [HP.out]
    have HB := Lib.hid hb
    clear hb
    go_wp2
    go_ret
    exact ⟨ret_str ER.out.symm, HB.out⟩
  have HP := Lib.hid h
  have ER := Lib.hid (show polyT p = jn [32] (texts p) from if_pos h)
  have HS := Lib.hid (polyR_shape h)
  have HW6 := Lib.hid (flat_w64 (polyR_shape h).2.2)
  have hl12 := HS.out.2.1
  obtain ⟨i0, hi, hz0, hz1, hz2⟩ := info_parts info_str
  have HI := Lib.hid (And.intro hi (And.intro hz0 (And.intro hz1 hz2)))
  have HN := Lib.hid (texts_len p)
  clear h hi hz0 hz1 hz2
  go_enter Tryd.func7, Tryd.ntmps7
  go_wp2_with fail
  refine (i_ispoly p _ _ HV.out).mono ?_
  rintro e w0 ⟨rfl, hb⟩
  rw [HP.out]
  have HB0 := Lib.hid hb
  clear hb
  go_wp2_with (at_make; refine wpList_make_full _ rfl _ _ 30 rfl w0.heap.size 9 i0 _ 1 Tryd.underlying30 HI.out.1 HI.out.2.1 HI.out.2.2.1 .i64 .i64 _ _ p.length rfl rfl rfl rfl (by rw [HI.out.2.2.2]; omega) (by unfold maxLen; omega) (Nat.le_refl _) ?_; intro w2 hown hgrow)
  have hbel : Below w0.heap.size w0 w2 := (Below.refl _ _).grown hgrow (Nat.le_refl _) (fun _ h => by cases h)
  rw [show (Value.string ⟨#[]⟩).cells = #[Value.string ⟨#[]⟩] from rfl, toList_madeCells_one, Nat.mul_one, show p.length = (strVals (texts p)).length by rw [strVals_len, texts_len], ← filled_zero (strVals (texts p))] at hown
  rw [strVals_len, HN.out] at hown
  have HW := Lib.hid hown
  have HB := Lib.hid hbel
  have hsz1 : w0.heap.size < w2.heap.size := (hown.lt _ rfl).2
  clear hown hgrow hbel
  go_loopw [14] (fun i wr => ∃ k : Nat, k ≤ p.length ∧ i = .int .i64 k ∧ wr.ownsRow w0.heap.size 9 1 (.slice (some ⟨w0.heap.size, 0, none⟩) p.length p.length) p.length (filled (strVals (texts p)) (.string ⟨#[]⟩) k) ∧ Below w0.heap.size w0 wr) (fun i _ => p.length - (RowKit.intOf i).toNat)
  case atStart => exact ⟨0, Nat.zero_le _, rfl, HW.out, HB.out⟩
  case round =>
    obtain ⟨k, hk, rfl, how, hbr⟩ := hrel
    have HR := Lib.hid hbr
    have HOW := Lib.hid how
    have HA := Lib.hid (HB0.out.trans (hbr.mono HB0.out.size))
    clear how hbr
    by_cases hlt : k < p.length
    · have i1 : (0 : Int) ≤ (k : Int) := by omega
      have i2 : (k : Int) < (p.length : Int) := by omega
      obtain ⟨b, off, x, rfl, hb2, hcell, hsx⟩ := HV.out.cells k hlt
      rw [← HA.out.cell (p := ⟨b, off + k, none⟩) hb2] at hcell
      have HX := Lib.hid (hsx.below HA.out)
      obtain ⟨xa, xc, rfl, _⟩ := hsx.shape
      have HK := Lib.hid (HW6.out p[k] (List.getElem_mem hlt))
      have HTV := Lib.hid (textV_of HK.out.2.2)
      clear hsx
      go_wp2_with fail
      refine (i_text p[k] _ _ (HXP.out.below HA.out) HX.out).mono ?_
      rintro e w3 ⟨rfl, hb3⟩
      rw [HTV.out]
      have how3 := owns_below HOW.out hb3
      have hmine := how3.cellAt k (by omega)
      rw [filled_get _ _ _ (by rw [strVals_len, texts_len]; exact hlt)] at hmine
      have hfree := how3.frozenAt k
      have HS3 := Lib.hid (how3.stored k (.string ⟨(textL p[k]).toArray⟩))
      have HR3 := Lib.hid (HR.out.trans (hb3.mono HR.out.size))
      have NG := Lib.hid (show (strVals (texts p))[k]? = some (.string ⟨(textL p[k]).toArray⟩) by rw [strVals_get _ _ (by rw [texts_len]; exact hlt)]; simp [texts])
      clear how3 hb3 hcell
      go_wp2
      have h2 := HS3.out.1
      rw [filled_step _ _ _ _ NG.out] at h2
      exact ⟨⟨k + 1, by omega, by go_num, h2, HR3.out.setCell (Nat.le_refl _) _⟩, by simp [RowKit.intOf]; omega⟩
    · obtain rfl : k = p.length := by omega
      have HZ := Lib.hid (texts_sizes p HW6.out)
      have hfa := filled_all (strVals (texts p)) (.string ⟨#[]⟩)
      rw [strVals_len, texts_len] at hfa
      have how := HOW.out
      rw [hfa] at how
      have HA2 := Lib.hid (Sl.of_owns how)
      clear how hfa
      go_wp2_with fail
      refine (ijoin (texts p) ⟨#[32]⟩ _ _ HA2.out (by rw [HN.out]; omega) (by show 1 ≤ 1048576; omega) (by have := HZ.out; omega)).mono ?_
      rintro e w4 ⟨rfl, hb4⟩
      have HB4 := Lib.hid (HA.out.trans (hb4.mono HA.out.size))
      clear hb4
      go_wp2_with fail
      go_ret
      exact ⟨ret_str ER.out.symm, HB4.out⟩
end Go.Proofs.YtoekgcafhcamjaaDoor
