/- Vectors as texts: the model's and the program's VectorText. -/
import Derived.Test.YtoekgcafhcamjaaDoorVecI
import Derived.Test.YtoekgcafhcamjaaDoorFi
import Derived.Test.YtoekgcafhcamjaaDoorRi
import Derived.Test.YtoekgcafhcamjaaDoorJoin
import Derived.Test.YtoekgcafhcamjaaDoorIJoin
import Derived.Lib.ItoaLen
namespace Go.Proofs.YtoekgcafhcamjaaDoor
open Go.RowKit Go.Lib

def numeral (n : Int) : ByteArray := ⟨(itoa n).toArray⟩
def numerals (v : List Int) : List ByteArray := v.map numeral
theorem numerals_len (v : List Int) : (numerals v).length = v.length := by simp [numerals]
theorem numerals_take {v : List Int} {k : Nat} (h : k < v.length) : numerals (v.take (k + 1)) = numerals (v.take k) ++ [numeral v[k]] := by
  unfold numerals
  rw [List.take_succ_eq_append_getElem h, List.map_append]; rfl
/-- The numbers in decimal with commas between. -/
def textL (v : List Int) : List UInt8 := jn [44] (numerals v)
def textV (v : List Int) : List UInt8 := if isV v = true then textL v else []
def W64 (v : List Int) : Prop := ∀ (k : Nat) (h : k < v.length), -9223372036854775808 ≤ v[k] ∧ v[k] ≤ 9223372036854775807
theorem Bd.w64 {v : List Int} {n : Int} (h : Bd v n) (hn : n ≤ 9223372036854775807) : W64 v := fun k hk => ⟨by have := h k hk; omega, by have := h k hk; omega⟩
theorem numeral_size (n : Int) (h0 : -9223372036854775808 ≤ n) (h1 : n ≤ 9223372036854775807) : (numeral n).size ≤ 21 := by
  have := itoa_length_le n h0 h1
  show (itoa n).toArray.size ≤ 21
  simpa using this
theorem numerals_sizes : ∀ (v : List Int), W64 v → sizes (numerals v) ≤ 21 * v.length
  | [], _ => by simp [sizes, numerals]
  | x :: r, h => by
    have h0 := h 0 (by simp)
    have ih := numerals_sizes r (fun k hk => h (k + 1) (by simpa using hk))
    have hx := numeral_size x h0.1 h0.2
    have e : sizes (numerals (x :: r)) = (numeral x).size + sizes (numerals r) := by simp [sizes, numerals]
    rw [e, List.length_cons]
    omega

set_option maxRecDepth 100000 in
set_option maxHeartbeats 400000 in
theorem s_l2text (v : List Int) (hv' : W64 v) (hm : v.length ≤ 1048576) (a : Value) (w : World) (hv : Sl w a (intVals v)) :
    Calls Tryd.prog 11 #[a] w (Quiet w (.string ⟨(textL v).toArray⟩)) := by
  obtain ⟨a, c, rfl, _, hopen⟩ := hv.shape
  rw [intVals_len] at hopen ⊢
  have HO := Lib.hid hopen
  have HV := Lib.hid hv'
  clear hopen hv hv'
  go_enter Tryd.func11, Tryd.ntmps11
  go_wp2
  go_loopw [3, 4] (fun o i wr => ∃ k : Nat, k ≤ v.length ∧ i = .int .i64 k ∧ wr.ownsRow w.heap.size 9 1 o k (strVals (numerals (v.take k))) ∧ Below w.heap.size w wr) (fun _ i _ => v.length - (RowKit.intOf i).toNat)
  case atStart => exact ⟨0, Nat.zero_le _, rfl, owns_empty (Nat.le_refl _), (Below.refl _ _).alloc (Nat.le_refl _) _⟩
  case round =>
    obtain ⟨k, hk, rfl, how, hbr⟩ := hrel
    have HW := Lib.hid how
    have HB := Lib.hid hbr
    by_cases hlt : k < v.length
    · obtain ⟨b, off, rfl, hc, hlt2, hx⟩ := HO.out (by omega)
      have hcell := hx k _ (intVals_get v k hlt)
      rw [← hbr.cell (p := ⟨b, off + k, none⟩) hlt2] at hcell
      clear hx hbr how
      have hw1 := (HV.out k hlt).1
      have hw2 := (HV.out k hlt).2
      have NT := Lib.hid (numerals_take hlt)
      have hk' : k ≤ 1099511627776 := by omega
      go_wp2_with fail
      refine (fi_any v[k] hw1 hw2 _).mono ?_
      rintro e w1 ⟨rfl, hb1⟩
      have HB1 := Lib.hid (HB.out.trans (hb1.mono HB.out.size))
      have HW1 := Lib.hid (owns_below HW.out hb1)
      clear hb1
      have C3 := Lib.hid (show w.heap.size ≤ (w1.alloc (.cells #[.string ⟨(itoa v[k]).toArray⟩] 9)).heap.size by rw [World.size_alloc]; exact Nat.le_succ_of_le HB1.out.size)
      go_wp2_with (at_builtin; refine list_app_str rfl _ _ rfl w.heap.size _ k (numerals (v.take k)) _ rfl (HW1.out.alloc _) w1.heap.size rfl (heap_alloc_new w1 _) hk' C3.out ?_; intro v' w2 hown1 hbel; have HO1 := Lib.hid hown1; have HB2 := Lib.hid ((HB1.out.alloc HB1.out.size _).trans hbel); clear hown1 hbel)
      refine ⟨⟨k + 1, by omega, by go_num, ?_, HB2.out⟩, by simp [RowKit.intOf]; omega⟩
      rw [NT.out]
      exact HO1.out
    · obtain rfl : k = v.length := by omega
      clear hbr how
      have HS := Lib.hid (numerals_sizes v HV.out)
      have HN := Lib.hid (numerals_len v)
      have hw := HW.out
      rw [List.take_length] at hw
      have HW2 := Lib.hid (Sl.of_owns hw)
      clear hw
      go_wp2_with fail
      refine (sjoin (numerals v) ⟨#[44]⟩ _ _ HW2.out (by rw [HN.out]; omega) (by show 1 ≤ 1048576; omega) (by have := HS.out; omega)).mono ?_
      rintro e w1 ⟨rfl, hb1⟩
      have HB1 := Lib.hid (HB.out.trans (hb1.mono HB.out.size))
      clear hb1
      go_wp2_with fail
      go_ret
      exact ⟨rfl, HB1.out⟩

set_option maxRecDepth 100000 in
set_option maxHeartbeats 800000 in
theorem i_comma (v : List Int) (hv' : W64 v) (hm : v.length ≤ 1048576) (a : Value) (w : World) (hx : HasPow w) (hv : Sl w a (intVals v)) :
    Calls Tryd.prog 27 #[a] w (Quiet w (.string ⟨(textL v).toArray⟩)) := by
  have HX := Lib.hid hx
  have HV := Lib.hid hv'
  obtain ⟨a, c, rfl, _, hopen⟩ := hv.shape
  rw [intVals_len] at hopen ⊢
  have HO := Lib.hid hopen
  obtain ⟨i0, hi, hz0, hz1, hz2⟩ := info_parts info_str
  have HI := Lib.hid (And.intro hi (And.intro hz0 (And.intro hz1 hz2)))
  have HN := Lib.hid (numerals_len v)
  clear hv hx hopen hv' hi hz0 hz1 hz2
  go_enter Tryd.func27, Tryd.ntmps27
  go_wp2_with (at_make; refine wpList_make_full _ rfl _ _ 30 rfl w.heap.size 9 i0 _ 1 Tryd.underlying30 HI.out.1 HI.out.2.1 HI.out.2.2.1 .i64 .i64 _ _ v.length rfl rfl rfl rfl (by rw [HI.out.2.2.2]; omega) (by unfold maxLen; omega) (Nat.le_refl _) ?_; intro w2 hown hgrow)
  have hbel : Below w.heap.size w w2 := (Below.refl _ _).grown hgrow (Nat.le_refl _) (fun _ h => by cases h)
  rw [show (Value.string ⟨#[]⟩).cells = #[Value.string ⟨#[]⟩] from rfl, toList_madeCells_one, Nat.mul_one, show v.length = (strVals (numerals v)).length by rw [strVals_len, numerals_len], ← filled_zero (strVals (numerals v))] at hown
  rw [strVals_len, HN.out] at hown
  have HW := Lib.hid hown
  have HB := Lib.hid hbel
  have hsz1 : w.heap.size < w2.heap.size := (hown.lt _ rfl).2
  clear hown hgrow hbel
  go_loopw [11] (fun i wr => ∃ k : Nat, k ≤ v.length ∧ i = .int .i64 k ∧ wr.ownsRow w.heap.size 9 1 (.slice (some ⟨w.heap.size, 0, none⟩) v.length v.length) v.length (filled (strVals (numerals v)) (.string ⟨#[]⟩) k) ∧ Below w.heap.size w wr) (fun i _ => v.length - (RowKit.intOf i).toNat)
  case atStart => exact ⟨0, Nat.zero_le _, rfl, HW.out, HB.out⟩
  case round =>
    obtain ⟨k, hk, rfl, how, hbr⟩ := hrel
    by_cases hlt : k < v.length
    · obtain ⟨b, off, rfl, hc, hlt2, hx⟩ := HO.out (by omega)
      have hcell := hx k _ (intVals_get v k hlt)
      rw [← hbr.cell (p := ⟨b, off + k, none⟩) hlt2] at hcell
      have hw1 := (HV.out k hlt).1
      have hw2 := (HV.out k hlt).2
      have HR := Lib.hid hbr
      have HOW := Lib.hid how
      clear hx how hbr
      go_wp2_with fail
      refine (ifi v[k] hw1 hw2 _ (HX.out.below HR.out)).mono ?_
      rintro e w3 ⟨rfl, hb3⟩
      have how3 := owns_below HOW.out hb3
      have hmine := how3.cellAt k (by omega)
      rw [filled_get _ _ _ (by rw [strVals_len, numerals_len]; exact hlt)] at hmine
      have hfree := how3.frozenAt k
      have HS := Lib.hid (how3.stored k (.string ⟨(itoa v[k]).toArray⟩))
      have HR3 := Lib.hid (HR.out.trans (hb3.mono HR.out.size))
      have NG := Lib.hid (show (strVals (numerals v))[k]? = some (.string ⟨(itoa v[k]).toArray⟩) by rw [strVals_get _ _ (by rw [numerals_len]; exact hlt)]; simp [numerals, numeral])
      clear how3 hb3
      go_wp2
      have h2 := HS.out.1
      rw [filled_step _ _ _ _ NG.out] at h2
      exact ⟨⟨k + 1, by omega, by go_num, h2, HR3.out.setCell (Nat.le_refl _) _⟩, by simp [RowKit.intOf]; omega⟩
    · obtain rfl : k = v.length := by omega
      have HS := Lib.hid (numerals_sizes v HV.out)
      have hfa := filled_all (strVals (numerals v)) (.string ⟨#[]⟩)
      rw [strVals_len, numerals_len] at hfa
      rw [hfa] at how
      have HA := Lib.hid (Sl.of_owns how)
      have HR := Lib.hid hbr
      clear how hbr hfa
      go_wp2_with fail
      refine (ijoin (numerals v) ⟨#[44]⟩ _ _ HA.out (by rw [HN.out]; omega) (by show 1 ≤ 1048576; omega) (by have := HS.out; omega)).mono ?_
      rintro e w4 ⟨rfl, hb4⟩
      have HB4 := Lib.hid (HR.out.trans (hb4.mono HR.out.size))
      clear hb4
      go_wp2_with fail
      go_ret
      exact ⟨rfl, HB4.out⟩

set_option maxRecDepth 100000 in
set_option maxHeartbeats 400000 in
theorem i_text (v : List Int) (a : Value) (w : World) (hx : HasPow w) (hv : Sl w a (intVals v)) :
    Calls Tryd.prog 15 #[a] w (Quiet w (.string ⟨(textV v).toArray⟩)) := by
  have HC := Lib.hid (i_isv v a w hv)
  have HX := Lib.hid hx
  have HV := Lib.hid hv
  obtain ⟨a, c, rfl, _, _⟩ := hv.shape
  rw [intVals_len] at HC HV ⊢
  clear hv hx
  by_cases h : isV v = true
  · obtain ⟨l1, l2, l3⟩ := isV_t h
    have E := Lib.hid h
    have ER := Lib.hid (show textV v = textL v from if_pos h)
    have HW := Lib.hid ((small_bd l3).w64 (by omega))
    clear h l3
    go_enter Tryd.func15, Tryd.ntmps15
    go_wp2_with fail
    refine HC.out.mono ?_
    rintro e w1 ⟨rfl, hb1⟩
    rw [E.out]
    have B1 := Lib.hid hb1
    clear hb1
    go_wp2_with fail
    refine (i_comma v HW.out (by omega) _ _ (HX.out.below B1.out) (HV.out.below B1.out)).mono ?_
    rintro e w2 ⟨rfl, hb2⟩
    have B2 := Lib.hid (B1.out.trans (hb2.mono B1.out.size))
    clear hb2
    go_wp2_with fail
    go_ret
    exact ⟨ret_str ER.out.symm, B2.out⟩
  · have E := Lib.hid (bool_f h)
    have ER := Lib.hid (show textV v = [] from if_neg h)
    clear h
    go_enter Tryd.func15, Tryd.ntmps15
    go_wp2_with fail
    refine HC.out.mono ?_
    rintro e w1 ⟨rfl, hb1⟩
    rw [E.out]
    go_wp2_with fail
    go_ret
    exact ⟨ret_str ER.out.symm, hb1⟩
end Go.Proofs.YtoekgcafhcamjaaDoor
