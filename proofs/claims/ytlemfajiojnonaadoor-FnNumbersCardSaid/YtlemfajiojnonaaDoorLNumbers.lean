/- FnNumbers holds for every input. Conditions: the listed package variables hold what the program text lays. -/
import Derived.Test.YtlemfajiojnonaaDoorPi
import Derived.Test.YtlemfajiojnonaaDoorDrawNum
import Derived.Test.YtlemfajiojnonaaDoorCode
import Derived.Test.YtlemfajiojnonaaDoorLaw
import Derived.Test.YtlemfajiojnonaaDoorCards
import Derived.Test.YtlemfajiojnonaaDoorTie
import Derived.Deep.DeepHandedRow
import Derived.Deep.DeepWitnessRowRef
import Derived.Lib.LaidTab
import Derived.Lib.LaidIn
import Derived.SevenTiedAt
import Derived.Stop.LaidErr
import Derived.LaidLaws
namespace Go.Proofs.YtlemfajiojnonaaDoor.fnNumbers
open Go.ChangeShapes Go.WideShapes Go.ChangeAt Go.RowKit Go.Lib
open Go.ChangeMaps (open_string shut_string)
theorem len_pow (u : Nat) : nDigits u ≤ 12 ↔ u < 10 ^ 12 := by
  constructor
  · intro h
    have h1 := lt_pow_nDigits u
    have h2 : 10 ^ nDigits u ≤ 10 ^ 12 := Nat.pow_le_pow_right (by decide) h
    omega
  · intro h; exact nDigits_le_of_lt 11 u h
theorem itoa_len (n : Int) : (itoa n).length = (if n < 0 then 1 else 0) + nDigits n.natAbs := by
  unfold itoa
  split
  · rw [List.length_cons, decDigits_length]; omega
  · rw [decDigits_length, show n.toNat = n.natAbs from by omega]; omega
/-- 'len(s) <= 12 || n < 0 && len(s) <= 13'. -/
def fitsB (n : Int) : Bool := decide (n.natAbs < 10 ^ 12)
theorem ba_of {s : ByteArray} {l : List UInt8} (h : s.data.toList = l) : s = ⟨l.toArray⟩ := by
  subst h; cases s; simp
theorem code_below {w w' : World} {a : Option Addr} {zs : List Int} (h : CodeIn w a zs) (hb : Below w.heap.size w w') : CodeIn w' a zs := by
  refine ⟨h.1, h.2.1, fun h0 => ?_⟩
  obtain ⟨b, off, e, hbb, hx⟩ := h.2.2 h0
  exact ⟨b, off, e, Nat.lt_of_lt_of_le hbb hb.size, fun j z hj => by rw [hb.cell (p := ⟨b, off + j, none⟩) hbb]; exact hx j z hj⟩
theorem rd_itoa (n : Int) (h : n.natAbs < 10 ^ 12) : Rd 12 (itoa n) n := ⟨rfl, h⟩

set_option maxRecDepth 100000 in
set_option maxHeartbeats 400000 in
theorem walk_big (a : Option Addr) (n c : Nat) (hl : 1048576 < n) (w : World) :
    Calls Tryd.prog 3 #[.slice a n c] w fun e w' => e = .returned (.bool true) ∧ Below w.heap.size w w' := by
  have hd : decide ((1048576 : Int) < n) = true := by simp; omega
  go_enter Tryd.func3, Tryd.ntmps3
  go_wp2_with fail
  refine (big_any a n c _).mono ?_
  rintro e w1 ⟨rfl, rfl⟩
  rw [hd]
  go_wp2_with fail
  go_ret
  exact ⟨rfl, Below.refl _ _⟩

set_option maxRecDepth 100000 in
set_option maxHeartbeats 800000 in
theorem walk_small (a : Option Addr) (c : Nat) (zs : List Int) (w : World) (hc : CodeIn w a zs) (hv : Vars w) :
    Calls Tryd.prog 3 #[.slice a zs.length c] w fun e w' => e = .returned (.bool true) ∧ Below w.heap.size w w' := by
  have hd : decide ((1048576 : Int) < zs.length) = false := by have := hc.1; simp; omega
  have HC := Lib.hid hc
  have HV := Lib.hid hv
  have HD := Lib.hid hd
  clear hc hv hd
  go_enter Tryd.func3, Tryd.ntmps3
  go_wp2_with fail
  refine (big_any a zs.length c _).mono ?_
  rintro e w1 ⟨rfl, rfl⟩
  rw [HD.out]
  go_wp2_with fail
  refine (draw_format a c zs _ HC.out).mono ?_
  rintro e w1 ⟨⟨v, rfl, n, rfl, h0, h1⟩, hb1⟩
  have HB1 := Lib.hid hb1
  clear hb1
  go_wp2_with fail
  refine (ifi n h0 h1 _ (HV.out.below HB1.out)).mono ?_
  rintro e w2 ⟨rfl, hb2⟩
  have HB2 := Lib.hid (HB1.out.trans (hb2.mono HB1.out.size))
  clear hb2
  obtain ⟨T, hT⟩ : ∃ T : ByteArray, T = ⟨(itoa n).toArray⟩ := ⟨_, rfl⟩
  have hTl : T.data.toList = itoa n := by rw [hT]
  have hTs : T.size = (if n < 0 then 1 else 0) + nDigits n.natAbs := by rw [← list_len, hTl, itoa_len]
  have hT21 : T.size ≤ 21 := by rw [← list_len, hTl]; exact itoa_length_le n h0 h1
  have hfit := len_pow n.natAbs
  rw [← hT]
  have HT := Lib.hid hT
  have HTL := Lib.hid hTl
  have HTS := Lib.hid hTs
  have hself : (!T.toList == T.toList) = false := by simp
  clear hT hTl hTs
  go_wp2_with fail
  refine (pi_any T (by omega) _ (HV.out.below HB2.out)).mono ?_
  rintro e w3 ⟨⟨m, hm, rfl⟩ | ⟨hno, rfl⟩, hb3⟩
  all_goals
    have HB3 := Lib.hid (HB2.out.trans (hb3.mono HB2.out.size))
    clear hb3
  · obtain rfl : m = n := rd_unique hm HTL.out
    have h12 : nDigits m.natAbs ≤ 12 := hfit.2 hm.2
    clear hm hfit
    go_wp2_with fail
    refine (fi_any m h0 h1 _).mono ?_
    rintro e w4 ⟨rfl, hb4⟩
    rw [← HT.out]
    have HB4 := Lib.hid (HB3.out.trans (hb4.mono HB3.out.size))
    clear hb4
    have hmm : (m != m) = false := by simp
    have HC2 := Lib.hid (code_below HC.out HB4.out)
    by_cases hneg : m < 0
    · have hs13 : T.size ≤ 13 := by have := HTS.out; rw [if_pos hneg] at this; omega
      clear h12
      by_cases hs12 : T.size ≤ 12
      · have b12 : decide ((T.size : Int) ≤ 12) = true := by simp; omega
        go_wp2_with fail
        refine (draw_number a c zs _ HC2.out).mono ?_
        rintro e w5 ⟨⟨t, rfl, ht⟩, hb5⟩
        have HB5 := Lib.hid (HB4.out.trans (hb5.mono HB4.out.size))
        have hv5 := HV.out.below HB5.out
        have HP := Lib.hid (pn_any t (by omega) w5 hv5)
        have hq := spn_any t (by unfold maxLen; omega)
        have HQ := Lib.hid hq
        clear hb5 hv5 hq
        go_wp2_with fail
        refine HP.out.mono ?_
        rintro e w6 ⟨⟨y, hy, rfl⟩ | ⟨hyo, rfl⟩, hb6⟩
        · have HY := Lib.hid hy
          have HB6 := Lib.hid (HB5.out.trans (hb6.mono HB5.out.size))
          clear hy hb6
          go_wp2_with fail
          refine (HQ.out w6).mono ?_
          rintro e w7 ⟨⟨z, hz, rfl⟩ | ⟨hzo, rfl⟩, hb7⟩
          · have HB7 := Lib.hid (HB6.out.trans (hb7.mono HB6.out.size))
            clear hz hb7
            have y0 : 0 ≤ y := HY.out.2
            have y1 : y ≤ 999999 := by have h6 : y.natAbs < 10 ^ 6 := HY.out.1.2; omega
            have htx : (⟨(itoa y).toArray⟩ : ByteArray) = t := (ba_of HY.out.1.1).symm
            have HTX := Lib.hid htx
            have hself2 : (t.toList == t.toList) = true := by simp
            clear htx
            go_wp2_with fail
            refine (ifi y (by omega) (by omega) _ (HV.out.below HB7.out)).mono ?_
            rintro e w8 ⟨rfl, hb8⟩
            rw [HTX.out]
            have HB8 := Lib.hid (HB7.out.trans (hb8.mono HB7.out.size))
            clear hb8
            go_wp2_with fail
            go_ret
            exact ⟨rfl, HB8.out⟩
          · exact absurd HY.out (hzo y)
        · have HY := Lib.hid hyo
          have HB6 := Lib.hid (HB5.out.trans (hb6.mono HB5.out.size))
          clear hyo hb6
          go_wp2_with fail
          refine (HQ.out w6).mono ?_
          rintro e w7 ⟨⟨z, hz, rfl⟩ | ⟨hzo, rfl⟩, hb7⟩
          · exact absurd hz (HY.out z)
          · have HB7 := Lib.hid (HB6.out.trans (hb7.mono HB6.out.size))
            clear hzo hb7
            go_wp2_with fail
            go_ret
            exact ⟨rfl, HB7.out⟩
      · have b12 : decide ((T.size : Int) ≤ 12) = false := by simp; omega
        have b13 : decide ((T.size : Int) ≤ 13) = true := by simp; omega
        go_wp2_with fail
        refine (draw_number a c zs _ HC2.out).mono ?_
        rintro e w5 ⟨⟨t, rfl, ht⟩, hb5⟩
        have HB5 := Lib.hid (HB4.out.trans (hb5.mono HB4.out.size))
        have hv5 := HV.out.below HB5.out
        have HP := Lib.hid (pn_any t (by omega) w5 hv5)
        have hq := spn_any t (by unfold maxLen; omega)
        have HQ := Lib.hid hq
        clear hb5 hv5 hq
        go_wp2_with fail
        refine HP.out.mono ?_
        rintro e w6 ⟨⟨y, hy, rfl⟩ | ⟨hyo, rfl⟩, hb6⟩
        · have HY := Lib.hid hy
          have HB6 := Lib.hid (HB5.out.trans (hb6.mono HB5.out.size))
          clear hy hb6
          go_wp2_with fail
          refine (HQ.out w6).mono ?_
          rintro e w7 ⟨⟨z, hz, rfl⟩ | ⟨hzo, rfl⟩, hb7⟩
          · have HB7 := Lib.hid (HB6.out.trans (hb7.mono HB6.out.size))
            clear hz hb7
            have y0 : 0 ≤ y := HY.out.2
            have y1 : y ≤ 999999 := by have h6 : y.natAbs < 10 ^ 6 := HY.out.1.2; omega
            have htx : (⟨(itoa y).toArray⟩ : ByteArray) = t := (ba_of HY.out.1.1).symm
            have HTX := Lib.hid htx
            have hself2 : (t.toList == t.toList) = true := by simp
            clear htx
            go_wp2_with fail
            refine (ifi y (by omega) (by omega) _ (HV.out.below HB7.out)).mono ?_
            rintro e w8 ⟨rfl, hb8⟩
            rw [HTX.out]
            have HB8 := Lib.hid (HB7.out.trans (hb8.mono HB7.out.size))
            clear hb8
            go_wp2_with fail
            go_ret
            exact ⟨rfl, HB8.out⟩
          · exact absurd HY.out (hzo y)
        · have HY := Lib.hid hyo
          have HB6 := Lib.hid (HB5.out.trans (hb6.mono HB5.out.size))
          clear hyo hb6
          go_wp2_with fail
          refine (HQ.out w6).mono ?_
          rintro e w7 ⟨⟨z, hz, rfl⟩ | ⟨hzo, rfl⟩, hb7⟩
          · exact absurd hz (HY.out z)
          · have HB7 := Lib.hid (HB6.out.trans (hb7.mono HB6.out.size))
            clear hzo hb7
            go_wp2_with fail
            go_ret
            exact ⟨rfl, HB7.out⟩
    · have hs12 : T.size ≤ 12 := by have := HTS.out; rw [if_neg hneg] at this; omega
      clear h12
      have b12 : decide ((T.size : Int) ≤ 12) = true := by simp; omega
      go_wp2_with fail
      refine (draw_number a c zs _ HC2.out).mono ?_
      rintro e w5 ⟨⟨t, rfl, ht⟩, hb5⟩
      have HB5 := Lib.hid (HB4.out.trans (hb5.mono HB4.out.size))
      have hv5 := HV.out.below HB5.out
      have HP := Lib.hid (pn_any t (by omega) w5 hv5)
      have hq := spn_any t (by unfold maxLen; omega)
      have HQ := Lib.hid hq
      clear hb5 hv5 hq
      go_wp2_with fail
      refine HP.out.mono ?_
      rintro e w6 ⟨⟨y, hy, rfl⟩ | ⟨hyo, rfl⟩, hb6⟩
      · have HY := Lib.hid hy
        have HB6 := Lib.hid (HB5.out.trans (hb6.mono HB5.out.size))
        clear hy hb6
        go_wp2_with fail
        refine (HQ.out w6).mono ?_
        rintro e w7 ⟨⟨z, hz, rfl⟩ | ⟨hzo, rfl⟩, hb7⟩
        · have HB7 := Lib.hid (HB6.out.trans (hb7.mono HB6.out.size))
          clear hz hb7
          have y0 : 0 ≤ y := HY.out.2
          have y1 : y ≤ 999999 := by have h6 : y.natAbs < 10 ^ 6 := HY.out.1.2; omega
          have htx : (⟨(itoa y).toArray⟩ : ByteArray) = t := (ba_of HY.out.1.1).symm
          have HTX := Lib.hid htx
          have hself2 : (t.toList == t.toList) = true := by simp
          clear htx
          go_wp2_with fail
          refine (ifi y (by omega) (by omega) _ (HV.out.below HB7.out)).mono ?_
          rintro e w8 ⟨rfl, hb8⟩
          rw [HTX.out]
          have HB8 := Lib.hid (HB7.out.trans (hb8.mono HB7.out.size))
          clear hb8
          go_wp2_with fail
          go_ret
          exact ⟨rfl, HB8.out⟩
        · exact absurd HY.out (hzo y)
      · have HY := Lib.hid hyo
        have HB6 := Lib.hid (HB5.out.trans (hb6.mono HB5.out.size))
        clear hyo hb6
        go_wp2_with fail
        refine (HQ.out w6).mono ?_
        rintro e w7 ⟨⟨z, hz, rfl⟩ | ⟨hzo, rfl⟩, hb7⟩
        · exact absurd hz (HY.out z)
        · have HB7 := Lib.hid (HB6.out.trans (hb7.mono HB6.out.size))
          clear hzo hb7
          go_wp2_with fail
          go_ret
          exact ⟨rfl, HB7.out⟩
  · have h12 : 13 ≤ nDigits n.natAbs := by
      by_cases hh : nDigits n.natAbs ≤ 12
      · exact absurd (rd_itoa n (hfit.1 hh)) (by rw [← HTL.out]; exact hno n)
      · omega
    clear hno hfit
    go_wp2_with fail
    refine (fi_any n h0 h1 _).mono ?_
    rintro e w4 ⟨rfl, hb4⟩
    rw [← HT.out]
    have HB4 := Lib.hid (HB3.out.trans (hb4.mono HB3.out.size))
    clear hb4
    have HC2 := Lib.hid (code_below HC.out HB4.out)
    by_cases hneg : n < 0
    · have hs13 : 13 < T.size := by have := HTS.out; rw [if_pos hneg] at this; omega
      clear h12
      have b12 : decide ((T.size : Int) ≤ 12) = false := by simp; omega
      have b13 : decide ((T.size : Int) ≤ 13) = false := by simp; omega
      go_wp2_with fail
      refine (draw_number a c zs _ HC2.out).mono ?_
      rintro e w5 ⟨⟨t, rfl, ht⟩, hb5⟩
      have HB5 := Lib.hid (HB4.out.trans (hb5.mono HB4.out.size))
      have hv5 := HV.out.below HB5.out
      have HP := Lib.hid (pn_any t (by omega) w5 hv5)
      have hq := spn_any t (by unfold maxLen; omega)
      have HQ := Lib.hid hq
      clear hb5 hv5 hq
      go_wp2_with fail
      refine HP.out.mono ?_
      rintro e w6 ⟨⟨y, hy, rfl⟩ | ⟨hyo, rfl⟩, hb6⟩
      · have HY := Lib.hid hy
        have HB6 := Lib.hid (HB5.out.trans (hb6.mono HB5.out.size))
        clear hy hb6
        go_wp2_with fail
        refine (HQ.out w6).mono ?_
        rintro e w7 ⟨⟨z, hz, rfl⟩ | ⟨hzo, rfl⟩, hb7⟩
        · have HB7 := Lib.hid (HB6.out.trans (hb7.mono HB6.out.size))
          clear hz hb7
          have y0 : 0 ≤ y := HY.out.2
          have y1 : y ≤ 999999 := by have h6 : y.natAbs < 10 ^ 6 := HY.out.1.2; omega
          have htx : (⟨(itoa y).toArray⟩ : ByteArray) = t := (ba_of HY.out.1.1).symm
          have HTX := Lib.hid htx
          have hself2 : (t.toList == t.toList) = true := by simp
          clear htx
          go_wp2_with fail
          refine (ifi y (by omega) (by omega) _ (HV.out.below HB7.out)).mono ?_
          rintro e w8 ⟨rfl, hb8⟩
          rw [HTX.out]
          have HB8 := Lib.hid (HB7.out.trans (hb8.mono HB7.out.size))
          clear hb8
          go_wp2_with fail
          go_ret
          exact ⟨rfl, HB8.out⟩
        · exact absurd HY.out (hzo y)
      · have HY := Lib.hid hyo
        have HB6 := Lib.hid (HB5.out.trans (hb6.mono HB5.out.size))
        clear hyo hb6
        go_wp2_with fail
        refine (HQ.out w6).mono ?_
        rintro e w7 ⟨⟨z, hz, rfl⟩ | ⟨hzo, rfl⟩, hb7⟩
        · exact absurd hz (HY.out z)
        · have HB7 := Lib.hid (HB6.out.trans (hb7.mono HB6.out.size))
          clear hzo hb7
          go_wp2_with fail
          go_ret
          exact ⟨rfl, HB7.out⟩
    · have hs12 : 12 < T.size := by have := HTS.out; rw [if_neg hneg] at this; omega
      clear h12
      have b12 : decide ((T.size : Int) ≤ 12) = false := by simp; omega
      go_wp2_with fail
      refine (draw_number a c zs _ HC2.out).mono ?_
      rintro e w5 ⟨⟨t, rfl, ht⟩, hb5⟩
      have HB5 := Lib.hid (HB4.out.trans (hb5.mono HB4.out.size))
      have hv5 := HV.out.below HB5.out
      have HP := Lib.hid (pn_any t (by omega) w5 hv5)
      have hq := spn_any t (by unfold maxLen; omega)
      have HQ := Lib.hid hq
      clear hb5 hv5 hq
      go_wp2_with fail
      refine HP.out.mono ?_
      rintro e w6 ⟨⟨y, hy, rfl⟩ | ⟨hyo, rfl⟩, hb6⟩
      · have HY := Lib.hid hy
        have HB6 := Lib.hid (HB5.out.trans (hb6.mono HB5.out.size))
        clear hy hb6
        go_wp2_with fail
        refine (HQ.out w6).mono ?_
        rintro e w7 ⟨⟨z, hz, rfl⟩ | ⟨hzo, rfl⟩, hb7⟩
        · have HB7 := Lib.hid (HB6.out.trans (hb7.mono HB6.out.size))
          clear hz hb7
          have y0 : 0 ≤ y := HY.out.2
          have y1 : y ≤ 999999 := by have h6 : y.natAbs < 10 ^ 6 := HY.out.1.2; omega
          have htx : (⟨(itoa y).toArray⟩ : ByteArray) = t := (ba_of HY.out.1.1).symm
          have HTX := Lib.hid htx
          have hself2 : (t.toList == t.toList) = true := by simp
          clear htx
          go_wp2_with fail
          refine (ifi y (by omega) (by omega) _ (HV.out.below HB7.out)).mono ?_
          rintro e w8 ⟨rfl, hb8⟩
          rw [HTX.out]
          have HB8 := Lib.hid (HB7.out.trans (hb8.mono HB7.out.size))
          clear hb8
          go_wp2_with fail
          go_ret
          exact ⟨rfl, HB8.out⟩
        · exact absurd HY.out (hzo y)
      · have HY := Lib.hid hyo
        have HB6 := Lib.hid (HB5.out.trans (hb6.mono HB5.out.size))
        clear hyo hb6
        go_wp2_with fail
        refine (HQ.out w6).mono ?_
        rintro e w7 ⟨⟨z, hz, rfl⟩ | ⟨hzo, rfl⟩, hb7⟩
        · exact absurd hz (HY.out z)
        · have HB7 := Lib.hid (HB6.out.trans (hb7.mono HB6.out.size))
          clear hzo hb7
          go_wp2_with fail
          go_ret
          exact ⟨rfl, HB7.out⟩

theorem walk (l : List Int) (a : Option Addr) (n c : Nat) (w : World) (hlen : l.length = n) (hs : Sl w (.slice a n c) (numVals .u8 l)) (hz : ∀ z ∈ l, (Lit.int .u8 z).wf = true) (hv : Vars w) :
    Calls Tryd.prog 3 #[.slice a n c] w fun e w' => e = .returned (.bool true) ∧ Below w.heap.size w w' := by
  by_cases hl : n ≤ 1048576
  · have hc := code_in hlen hs hz hl
    subst hlen
    exact walk_small a c l w hc hv
  · exact walk_big a n c (by omega) w

theorem gPowType : (Tryd.prog.globals[(0 : Nat)]?).map (·.type) = some 89 := by kernel_rfl
theorem cellsPow : Tryd.prog.cellsOf 89 = 20 := by kernel_rfl
theorem cellsU64 : Tryd.prog.cellsOf 69 = 1 := by kernel_rfl
theorem starName : "*" ++ "errors.errorString" = "*errors.errorString" := by decide
theorem starRow (u : TypeId) (h : Tryd.prog.typeName? 3 u = some "*errors.errorString") : u = 101 :=
  typeName_ptr_named (nm := "errors.errorString") (by rw [starName]; kernel_rfl) (by kernel_rfl) (by decide) u (by rw [starName]; exact h)

/-- What the row's list gives. -/
theorem vars_of {W : World} (h : laidMetH Tryd.prog Rows.fnNumbersRow.laid W) : Vars W := by
  have h0 : laidMet Tryd.prog Rows.fnNumbersRow.laid W := h
  have h2 := laidMet.tail (laidMet.tail h0)
  have h3 := laidMet.tail h2
  have h4 := laidMet.tail h3
  obtain ⟨a3, t3, hv3, _⟩ := laid_sentinel (g := 2) h3 (by kernel_rfl) (by kernel_rfl) Tryd.underlying53 starRow Tryd.underlying101 Tryd.underlying103 rfl rfl Tryd.underlying9 (by kernel_rfl) (by kernel_rfl)
  obtain ⟨a4, t4, hv4, _⟩ := laid_sentinel (g := 1) h4 (by kernel_rfl) (by kernel_rfl) Tryd.underlying53 starRow Tryd.underlying101 Tryd.underlying103 rfl rfl Tryd.underlying9 (by kernel_rfl) (by kernel_rfl)
  exact ⟨Lib.tabIs_of_head gPow gPowType Tryd.underlying89 Tryd.underlying69 cellsU64 cellsPow h2, ⟨_, _, hv4⟩, ⟨_, _, hv3⟩⟩

theorem own : ownKnob Tryd.prog.godebug = none := by kernel_rfl
theorem laidOut : laidOutB Tryd.prog = true := by kernel_rfl


set_option maxRecDepth 100000 in
set_option linter.unusedVariables false in
theorem contract (H : Type) (enc : TypeId × Value → H) (W : World) (base : Nat) (args : Array Value) (ds gs : List (DataW H)) (before : List MemPlace)
    (hval : ∀ (j : Nat) t v, Tryd.f3.params[j]? = some t → args[j]? = some v → Value.okWide Tryd.prog W .any base t v)
    (hW : DataW.Whole enc Tryd.prog Tryd.f3.params.toList Rows.fnNumbersSpec.vars false W args.toList ds gs before) (hL : laidMetH Tryd.prog Rows.fnNumbersRow.laid W) :
    Calls Tryd.prog 3 args W fun e W' => ∃ v, e = .returned v ∧ Rows.fnNumbersSpec.post enc Tryd.prog Tryd.f3 false true false false W args v W' := by
  have hW' := hW
  obtain ⟨p, q, hA0, hV, rfl, hfz, hnd⟩ := hW
  have hA : DataW.TrodAll enc Tryd.prog W 0 (fun _ => true) true Tryd.f3.params.toList args.toList ds p := hA0
  rw [Tryd.params3] at hA hval
  obtain ⟨v0, vs0, d0, ds0, p0, q0, hargs, rfl, rfl, h0, r0⟩ := trodAll_cons hA
  obtain ⟨rfl, rfl, rfl⟩ := trodAll_nil r0
  obtain rfl : args = #[v0] := by cases args; simp_all
  obtain ⟨lA, lL, lC, rfl⟩ := okWide_slice Tryd.underlying22 (hval 0 22 v0 rfl rfl)
  obtain ⟨l, wl⟩ : ∃ zs : List Int, zs.length = lL ∧ Sl W (.slice lA lL lC) (numVals .u8 zs) ∧ ∀ z ∈ zs, (Lit.int .u8 z).wf = true := by
    obtain ⟨fuel, hf⟩ := h0
    exact nums_came Tryd.underlying22 Tryd.underlying5 (by kernel_rfl) hf
  refine (walk l _ _ _ W wl.1 wl.2.1 wl.2.2 (vars_of hL)).mono fun e W' ⟨he, hb⟩ => ?_
  subst he
  exact ⟨_, rfl, law_post laidOut (by kernel_rfl) rfl Tryd.underlying4 rfl hW' (fun ds' h => by match ds', h with | [d0], _ => rfl) hb⟩


def laidCells : List (DataW Unit) → Array Value := fun l => (l.flatMap fun | .lit (.int k z) => [Value.int k z] | .agg m => (m.map fun | .lit (.int k z) => Value.int k z | _ => .int .i64 0) | _ => []).toArray
def aggCells : DataW Unit → Array Value
  | .agg l => laidCells l
  | _ => #[]
def sentText : DataW Unit → List UInt8
  | .iface _ (.ptr (.agg [.lit (.string l)])) => l
  | _ => []
/-- A world for the witness: the settled one, the listed variables holding what their initialisers lay. -/
noncomputable def laidWorld (os : Os) : World :=
  let N := (World.settled Tryd.prog os).heap.size
  let put (h : Array Obj) (g : Nat) (cs : Array Value) : Array Obj := h.modify g fun
    | .cells _ t frozen => .cells cs t frozen
    | o => o
  let w0 := World.holding Tryd.prog os ⟨#[.cells #[.string ⟨(sentText Rows.laid_strconv_ErrRange).toArray⟩] 103, .cells #[.string ⟨(sentText Rows.laid_strconv_ErrSyntax).toArray⟩] 103], #[], []⟩
  let h := w0.heap
  let h := put h 6 (aggCells Rows.laid_math_bits_deBruijn32tab)
  let h := put h 7 (aggCells Rows.laid_math_bits_deBruijn64tab)
  let h := put h 0 (aggCells Rows.laid_internal_strconv_uint64pow10)
  let h := put h 2 #[.iface 101 (.pointer (some ⟨N + 0, 0, none⟩))]
  let h := put h 1 #[.iface 101 (.pointer (some ⟨N + 1, 0, none⟩))]
  { w0 with heap := h }
theorem laid_met (os : Os) : laidMet Tryd.prog Rows.fnNumbersRow.laid ((laidWorld os).forCall (fun _ _ => 0) ⟨#[], #[.slice none 0 0], []⟩).memory :=
  laidMet_of_run' 8 (by kernel_rfl) (by kernel_rfl)
theorem reads (os : Os) {H : Type} (enc : TypeId × Value → H) : ∃ places, DataW.whole enc Tryd.prog ((laidWorld os).forCall (fun _ _ => 0) ⟨#[], #[.slice none 0 0], []⟩).memory Tryd.f3.params.toList Rows.fnNumbersSpec.vars false (#[.slice none 0 0] : Array Value).toList 8 = some ([.nil], [], places) :=
  ⟨[], by kernel_rfl⟩

set_option maxRecDepth 100000 in
theorem lifted (os : Os) (started : os.Started) (H : Type) (enc : TypeId × Value → H) (F : Stop.Interp) :
    ReturnsInHanded {} Tryd.checked os 3 .any ((OpenSpec.ofChange Rows.fnNumbersSpec).preRow enc Tryd.prog Tryd.f3 Rows.fnNumbersRow.domain false Rows.fnNumbersRow.laid) (((OpenSpec.ofChange Rows.fnNumbersSpec).at F).post enc Tryd.prog Tryd.f3 false true false false) := by
  obtain ⟨places, hx⟩ := reads os enc
  refine returnsInHanded_of_row (C := Tryd.checked) (s := (OpenSpec.ofChange Rows.fnNumbersSpec)) own started (by kernel_rfl) Tryd.func3
    (witness_row_atRef (enc := enc) (C := Tryd.checked) false (laidWorld os) #[.slice none 0 0] rfl (by kernel_rfl) (by kernel_rfl) (by kernel_rfl)
      (OpenSpec.preRow_of_cond 8 hx (by kernel_rfl) (fun k hk => by cases hk) (by kernel_rfl) (laid_met os))) ?_
  intro W base args ds gs before hval hW _ hcond _ hL hS _
  exact contract H enc W base args ds gs before hval hW hL

theorem said : Rows.FnNumbersSaid :=
  OpenClaim.holds_of_cond 3 Tryd.f3 rfl rfl rfl rfl rfl rfl rfl ⟨rfl, rfl, rfl, rfl, rfl⟩ rfl rfl rfl rfl rfl (by kernel_rfl) Tryd.func3 (by kernel_rfl)
    (of_decide_eq_true (by kernel_rfl)) (by unfold Func.isWrapper; first | (rw [if_pos (by decide +kernel)]; kernel_rfl) | (rw [if_neg (by decide +kernel)]; exact ⟨rfl, rfl⟩))
    (fun os started H enc _ F => by rw [OpenClaim.pre_eq_preRow]; exact lifted os started H enc F)

theorem plain (f : FuncId) (fn : Func) (hf : Tryd.pinned.checked.prog.funcNamed "loop.example/g00959/laws.FnNumbers" = some f) (hfn : Tryd.pinned.checked.prog.funcs[f]? = some fn) :
    true = Tryd.pinned.checked.prog.looks [] ∧ ∀ (j : Nat) t, fn.params[j]? = some t → Tryd.pinned.checked.prog.wantsStandIn t = false := by
  obtain rfl : f = 3 := Option.some.inj ((show Tryd.prog.funcNamed "loop.example/g00959/laws.FnNumbers" = some 3 by kernel_rfl).symm.trans hf) |>.symm
  obtain rfl : fn = Tryd.f3 := (Option.some.inj (Tryd.func3.symm.trans hfn)).symm
  refine ⟨by kernel_rfl, fun j t ht => ?_⟩
  rw [Tryd.params3] at ht
  have hall : (Tryd.f3.params.all fun t => !Tryd.prog.wantsStandIn t) = true := by kernel_rfl
  have hm := Array.mem_of_getElem? ht
  rw [← Tryd.params3] at hm
  have := (Array.all_eq_true_iff_forall_mem.1 hall) t hm
  have h2 : Tryd.prog.wantsStandIn t = false := by simpa using this
  exact h2

theorem card : Rows.FnNumbersCardSaid :=
  Claim7.holds_tied_plain_at .later [] _ _ _ _ said (fun _ h => by cases h) (by kernel_rfl) (fun _ h => by cases h) fnNumbers_row_tie rfl ⟨rfl, rfl⟩ (by kernel_rfl) rfl plain (by kernel_rfl)
end Go.Proofs.YtlemfajiojnonaaDoor.fnNumbers
