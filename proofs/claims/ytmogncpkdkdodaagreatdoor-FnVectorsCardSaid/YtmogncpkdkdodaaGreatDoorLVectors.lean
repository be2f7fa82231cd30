/- FnVectors holds for every input. Conditions: the listed package variables hold what the program text lays. -/
import Derived.Test.YtmogncpkdkdodaaGreatDoorScaled
import Derived.Test.YtmogncpkdkdodaaGreatDoorDrawVec2
import Derived.Test.YtmogncpkdkdodaaGreatDoorIntEq
import Derived.Test.YtmogncpkdkdodaaGreatDoorCode
import Derived.Test.YtmogncpkdkdodaaGreatDoorLaw
import Derived.Test.YtmogncpkdkdodaaGreatDoorCards
import Derived.Test.YtmogncpkdkdodaaGreatDoorTie
import Derived.Deep.DeepHandedRow
import Derived.Deep.DeepWitnessRowRef
import Derived.Lib.LaidTab
import Derived.Lib.LaidIn
import Derived.SevenTiedAt
import Derived.Stop.LaidErr
import Derived.LaidLaws
namespace Go.Proofs.YtmogncpkdkdodaaGreatDoor.fnVectors
open Go.ChangeShapes Go.WideShapes Go.ChangeAt Go.RowKit Go.Lib
open Go.ChangeMaps (open_string shut_string)
theorem gPowType : (Tryz.prog.globals[(3 : Nat)]?).map (·.type) = some 214 := by kernel_rfl
theorem cellsPow : Tryz.prog.cellsOf 214 = 20 := by kernel_rfl
theorem cellsU64 : Tryz.prog.cellsOf 175 = 1 := by kernel_rfl
theorem pow_of {W : World} (h : laidMetH Tryz.prog Rows.fnVectorsRow.laid W) : HasPow W := by
  have h0 : laidMet Tryz.prog Rows.fnVectorsRow.laid W := h
  have h2 := laidMet.tail (laidMet.tail (h0))
  exact Lib.tabIs_of_head gPow gPowType Tryz.underlying214 Tryz.underlying175 cellsU64 cellsPow h2

theorem starName : "*" ++ "errors.errorString" = "*errors.errorString" := by decide
theorem starRow (u : TypeId) (h : Tryz.prog.typeName? 3 u = some "*errors.errorString") : u = 224 :=
  typeName_ptr_named (nm := "errors.errorString") (by rw [starName]; kernel_rfl) (by kernel_rfl) (by decide) u (by rw [starName]; exact h)
/-- What the row's list gives. -/
theorem vars_of {W : World} (h : laidMetH Tryz.prog Rows.fnVectorsRow.laid W) : Vars W := by
  have h0 : laidMet Tryz.prog Rows.fnVectorsRow.laid W := h
  have h3 := laidMet.tail (laidMet.tail (laidMet.tail (laidMet.tail (h0))))
  have h4 := laidMet.tail (laidMet.tail (laidMet.tail (laidMet.tail (laidMet.tail (h0)))))
  obtain ⟨a3, t3, hv3, _⟩ := laid_sentinel (g := 2) h3 (by kernel_rfl) (by kernel_rfl) Tryz.underlying154 starRow Tryz.underlying224 Tryz.underlying226 rfl rfl Tryz.underlying9 (by kernel_rfl) (by kernel_rfl)
  obtain ⟨a4, t4, hv4, _⟩ := laid_sentinel (g := 1) h4 (by kernel_rfl) (by kernel_rfl) Tryz.underlying154 starRow Tryz.underlying224 Tryz.underlying226 rfl rfl Tryz.underlying9 (by kernel_rfl) (by kernel_rfl)
  exact ⟨pow_of h, ⟨_, _, hv4⟩, ⟨_, _, hv3⟩⟩

theorem max_of {W : World} (h : W.ShapedOpen Tryz.prog) : HasMax W := Tryz.laysM146.s1_3 W h

set_option maxRecDepth 100000 in
set_option maxHeartbeats 400000 in
theorem walk_big (a : Option Addr) (n c : Nat) (hl : 1048576 < n) (w : World) :
    Calls Tryz.prog 3 #[.slice a n c] w fun e w' => e = .returned (.bool true) ∧ Below w.heap.size w w' := by
  have hd : decide ((1048576 : Int) < n) = true := by simp; omega
  go_enter Tryz.func3, Tryz.ntmps3
  go_wp2_with fail
  refine (big_any a n c _).mono ?_
  rintro e w1 ⟨rfl, rfl⟩
  rw [hd]
  go_wp2_with fail
  go_ret
  exact ⟨rfl, Below.refl _ _⟩
set_option linter.unusedVariables false in
set_option maxRecDepth 100000 in
set_option maxHeartbeats 3200000 in
theorem walk_small (a : Option Addr) (c : Nat) (zs : List Int) (w : World) (hc : CodeIn w a zs) (E0 : Vars w) (E1 : HasMax w) :
    Calls Tryz.prog 3 #[.slice a zs.length c] w fun e w' => e = .returned (.bool true) ∧ Below w.heap.size w w' := by
  have hd : decide ((1048576 : Int) < zs.length) = false := by have := hc.1; simp; omega
  have HC := Lib.hid hc
  have HD := Lib.hid hd
  have X0 := Lib.hid E0
  have X1 := Lib.hid E1
  clear hc hd E0 E1
  have B0 := Lib.hid (Below.refl w.heap.size w)
  go_enter Tryz.func3, Tryz.ntmps3
  go_wp2_with fail
  refine (big_any a zs.length c _).mono ?_
  rintro e w1 ⟨rfl, rfl⟩
  rw [HD.out]
  go_wp2_with fail
  refine (d_gcdof a c zs w _ B0.out HC.out).mono ?_
  rintro e w1 ⟨⟨v, zv, rfl, fv, ho⟩, hb1⟩
  have B1 := Lib.hid (B0.out.trans (hb1.mono B0.out.size))
  have S1 := Lib.hid hb1.size
  have V_1 := Lib.hid ho
  clear hb1 ho
  have FV := Lib.hid fv
  clear fv
  go_wp2_with fail
  refine (i_gcdof zv _ _ V_1.out.sl).mono ?_
  rintro e w2 ⟨rfl, hb2⟩
  have B2 := Lib.hid (B1.out.trans (hb2.mono B1.out.size))
  have S2 := Lib.hid hb2.size
  have V_2 := Lib.hid (V_1.out.below hb2)
  clear hb2 V_1
  go_wp2_with fail
  refine (i_primv zv _ _ V_2.out.sl).mono ?_
  rintro e w3 ⟨⟨r, rfl, ho⟩, hb3⟩
  have B3 := Lib.hid (B2.out.trans (hb3.mono B2.out.size))
  have S3 := Lib.hid hb3.size
  have V_3 := Lib.hid (V_2.out.below hb3)
  have P_3 := Lib.hid ho
  clear hb3 V_2 ho
  go_wp2_with fail
  refine (s_primv zv _ _ V_3.out.sl).mono ?_
  rintro e w4 ⟨⟨r, rfl, ho⟩, hb4⟩
  have B4 := Lib.hid (B3.out.trans (hb4.mono B3.out.size))
  have S4 := Lib.hid hb4.size
  have V_4 := Lib.hid (V_3.out.below hb4)
  have P_4 := Lib.hid (P_3.out.below hb4)
  have WANT_4 := Lib.hid ho
  clear hb4 V_3 P_3 ho
  go_wp2_with fail
  refine (d_addv a c zs w _ B4.out HC.out).mono ?_
  rintro e w5 ⟨⟨va, vb, za, zb, rfl, ff, ho, hu⟩, hb5⟩
  have B5 := Lib.hid (B4.out.trans (hb5.mono B4.out.size))
  have S5 := Lib.hid hb5.size
  have V_5 := Lib.hid (V_4.out.below hb5)
  have P_5 := Lib.hid (P_4.out.below hb5)
  have WANT_5 := Lib.hid (WANT_4.out.below hb5)
  have A_5 := Lib.hid ho
  have B_5 := Lib.hid hu
  clear hb5 V_4 P_4 WANT_4 ho hu ff
  go_wp2_with fail
  refine (i_addv za zb _ _ _ A_5.out.sl B_5.out.sl).mono ?_
  rintro e w6 ⟨⟨r, rfl, ho⟩, hb6⟩
  have B6 := Lib.hid (B5.out.trans (hb6.mono B5.out.size))
  have S6 := Lib.hid hb6.size
  have V_6 := Lib.hid (V_5.out.below hb6)
  have P_6 := Lib.hid (P_5.out.below hb6)
  have WANT_6 := Lib.hid (WANT_5.out.below hb6)
  have A_6 := Lib.hid (A_5.out.below hb6)
  have B_6 := Lib.hid (B_5.out.below hb6)
  have X_6 := Lib.hid ho
  clear hb6 V_5 P_5 WANT_5 A_5 B_5 ho
  go_wp2_with fail
  refine (s_addv za zb _ _ _ A_6.out.sl B_6.out.sl).mono ?_
  rintro e w7 ⟨⟨r, rfl, ho⟩, hb7⟩
  have B7 := Lib.hid (B6.out.trans (hb7.mono B6.out.size))
  have S7 := Lib.hid hb7.size
  have V_7 := Lib.hid (V_6.out.below hb7)
  have P_7 := Lib.hid (P_6.out.below hb7)
  have WANT_7 := Lib.hid (WANT_6.out.below hb7)
  have A_7 := Lib.hid (A_6.out.below hb7)
  have B_7 := Lib.hid (B_6.out.below hb7)
  have X_7 := Lib.hid (X_6.out.below hb7)
  have Y_7 := Lib.hid ho
  clear hb7 V_6 P_6 WANT_6 A_6 B_6 X_6 ho
  go_wp2_with fail
  refine (d_scalev a c zs w _ B7.out HC.out).mono ?_
  rintro e w8 ⟨⟨vs, zt, k, rfl, ff, k1, k2, ho⟩, hb8⟩
  have B8 := Lib.hid (B7.out.trans (hb8.mono B7.out.size))
  have S8 := Lib.hid hb8.size
  have V_8 := Lib.hid (V_7.out.below hb8)
  have P_8 := Lib.hid (P_7.out.below hb8)
  have WANT_8 := Lib.hid (WANT_7.out.below hb8)
  have A_8 := Lib.hid (A_7.out.below hb8)
  have B_8 := Lib.hid (B_7.out.below hb8)
  have X_8 := Lib.hid (X_7.out.below hb8)
  have Y_8 := Lib.hid (Y_7.out.below hb8)
  have S_8 := Lib.hid ho
  clear hb8 V_7 P_7 WANT_7 A_7 B_7 X_7 Y_7 ho ff
  go_wp2_with fail
  refine (i_scalev zt k _ _ S_8.out.sl).mono ?_
  rintro e w9 ⟨⟨r, rfl, ho⟩, hb9⟩
  have B9 := Lib.hid (B8.out.trans (hb9.mono B8.out.size))
  have S9 := Lib.hid hb9.size
  have V_9 := Lib.hid (V_8.out.below hb9)
  have P_9 := Lib.hid (P_8.out.below hb9)
  have WANT_9 := Lib.hid (WANT_8.out.below hb9)
  have A_9 := Lib.hid (A_8.out.below hb9)
  have B_9 := Lib.hid (B_8.out.below hb9)
  have X_9 := Lib.hid (X_8.out.below hb9)
  have Y_9 := Lib.hid (Y_8.out.below hb9)
  have S_9 := Lib.hid (S_8.out.below hb9)
  have Z_9 := Lib.hid ho
  clear hb9 V_8 P_8 WANT_8 A_8 B_8 X_8 Y_8 S_8 ho
  go_wp2_with fail
  refine (s_scalev zt k _ _ S_9.out.sl).mono ?_
  rintro e w10 ⟨⟨r, rfl, ho⟩, hb10⟩
  have B10 := Lib.hid (B9.out.trans (hb10.mono B9.out.size))
  have S10 := Lib.hid hb10.size
  have V_10 := Lib.hid (V_9.out.below hb10)
  have P_10 := Lib.hid (P_9.out.below hb10)
  have WANT_10 := Lib.hid (WANT_9.out.below hb10)
  have A_10 := Lib.hid (A_9.out.below hb10)
  have B_10 := Lib.hid (B_9.out.below hb10)
  have X_10 := Lib.hid (X_9.out.below hb10)
  have Y_10 := Lib.hid (Y_9.out.below hb10)
  have S_10 := Lib.hid (S_9.out.below hb10)
  have Z_10 := Lib.hid (Z_9.out.below hb10)
  have WW_10 := Lib.hid ho
  clear hb10 V_9 P_9 WANT_9 A_9 B_9 X_9 Y_9 S_9 Z_9 ho
  clear S_10
  go_wp2_with fail
  refine (d_beforev a c zs w _ B10.out HC.out).mono ?_
  rintro e w11 ⟨⟨vc, vd, zc, zd, rfl, ff, ho, hu⟩, hb11⟩
  have B11 := Lib.hid (B10.out.trans (hb11.mono B10.out.size))
  have S11 := Lib.hid hb11.size
  have V_11 := Lib.hid (V_10.out.below hb11)
  have P_11 := Lib.hid (P_10.out.below hb11)
  have WANT_11 := Lib.hid (WANT_10.out.below hb11)
  have A_11 := Lib.hid (A_10.out.below hb11)
  have B_11 := Lib.hid (B_10.out.below hb11)
  have X_11 := Lib.hid (X_10.out.below hb11)
  have Y_11 := Lib.hid (Y_10.out.below hb11)
  have Z_11 := Lib.hid (Z_10.out.below hb11)
  have WW_11 := Lib.hid (WW_10.out.below hb11)
  have C_11 := Lib.hid ho
  have D_11 := Lib.hid hu
  clear hb11 V_10 P_10 WANT_10 A_10 B_10 X_10 Y_10 Z_10 WW_10 ho hu ff
  go_wp2_with fail
  refine (d_parsev a c zs w _ B11.out HC.out).mono ?_
  rintro e w12 ⟨⟨st, rfl, hst⟩, hb12⟩
  have B12 := Lib.hid (B11.out.trans (hb12.mono B11.out.size))
  have S12 := Lib.hid hb12.size
  have V_12 := Lib.hid (V_11.out.below hb12)
  have P_12 := Lib.hid (P_11.out.below hb12)
  have WANT_12 := Lib.hid (WANT_11.out.below hb12)
  have A_12 := Lib.hid (A_11.out.below hb12)
  have B_12 := Lib.hid (B_11.out.below hb12)
  have X_12 := Lib.hid (X_11.out.below hb12)
  have Y_12 := Lib.hid (Y_11.out.below hb12)
  have Z_12 := Lib.hid (Z_11.out.below hb12)
  have WW_12 := Lib.hid (WW_11.out.below hb12)
  have C_12 := Lib.hid (C_11.out.below hb12)
  have D_12 := Lib.hid (D_11.out.below hb12)
  clear hb12 V_11 P_11 WANT_11 A_11 B_11 X_11 Y_11 Z_11 WW_11 C_11 D_11
  have hst2 : st.size ≤ 1048576 := by omega
  go_wp2_with fail
  refine (i_pars st hst2 _ (X0.out.below B12.out) (X1.out.below B12.out)).mono ?_
  rintro e w13 ⟨⟨r, rfl, ho⟩, hb13⟩
  have B13 := Lib.hid (B12.out.trans (hb13.mono B12.out.size))
  have S13 := Lib.hid hb13.size
  have V_13 := Lib.hid (V_12.out.below hb13)
  have P_13 := Lib.hid (P_12.out.below hb13)
  have WANT_13 := Lib.hid (WANT_12.out.below hb13)
  have A_13 := Lib.hid (A_12.out.below hb13)
  have B_13 := Lib.hid (B_12.out.below hb13)
  have X_13 := Lib.hid (X_12.out.below hb13)
  have Y_13 := Lib.hid (Y_12.out.below hb13)
  have Z_13 := Lib.hid (Z_12.out.below hb13)
  have WW_13 := Lib.hid (WW_12.out.below hb13)
  have C_13 := Lib.hid (C_12.out.below hb13)
  have D_13 := Lib.hid (D_12.out.below hb13)
  have U_13 := Lib.hid ho
  clear hb13 V_12 P_12 WANT_12 A_12 B_12 X_12 Y_12 Z_12 WW_12 C_12 D_12 ho
  go_wp2_with fail
  refine (s_pars st hst2 _).mono ?_
  rintro e w14 ⟨⟨r, rfl, ho⟩, hb14⟩
  have B14 := Lib.hid (B13.out.trans (hb14.mono B13.out.size))
  have S14 := Lib.hid hb14.size
  have V_14 := Lib.hid (V_13.out.below hb14)
  have P_14 := Lib.hid (P_13.out.below hb14)
  have WANT_14 := Lib.hid (WANT_13.out.below hb14)
  have A_14 := Lib.hid (A_13.out.below hb14)
  have B_14 := Lib.hid (B_13.out.below hb14)
  have X_14 := Lib.hid (X_13.out.below hb14)
  have Y_14 := Lib.hid (Y_13.out.below hb14)
  have Z_14 := Lib.hid (Z_13.out.below hb14)
  have WW_14 := Lib.hid (WW_13.out.below hb14)
  have C_14 := Lib.hid (C_13.out.below hb14)
  have D_14 := Lib.hid (D_13.out.below hb14)
  have U_14 := Lib.hid (U_13.out.below hb14)
  have EE_14 := Lib.hid ho
  clear hb14 V_13 P_13 WANT_13 A_13 B_13 X_13 Y_13 Z_13 WW_13 C_13 D_13 U_13 ho
  go_wp2_with fail
  refine (s_gcdof zv _ _ V_14.out.sl).mono ?_
  rintro e w15 ⟨rfl, hb15⟩
  have B15 := Lib.hid (B14.out.trans (hb15.mono B14.out.size))
  have S15 := Lib.hid hb15.size
  have V_15 := Lib.hid (V_14.out.below hb15)
  have P_15 := Lib.hid (P_14.out.below hb15)
  have WANT_15 := Lib.hid (WANT_14.out.below hb15)
  have A_15 := Lib.hid (A_14.out.below hb15)
  have B_15 := Lib.hid (B_14.out.below hb15)
  have X_15 := Lib.hid (X_14.out.below hb15)
  have Y_15 := Lib.hid (Y_14.out.below hb15)
  have Z_15 := Lib.hid (Z_14.out.below hb15)
  have WW_15 := Lib.hid (WW_14.out.below hb15)
  have C_15 := Lib.hid (C_14.out.below hb15)
  have D_15 := Lib.hid (D_14.out.below hb15)
  have U_15 := Lib.hid (U_14.out.below hb15)
  have EE_15 := Lib.hid (EE_14.out.below hb15)
  clear hb15 V_14 P_14 WANT_14 A_14 B_14 X_14 Y_14 Z_14 WW_14 C_14 D_14 U_14 EE_14
  go_wp2_with fail
  refine (same_int (primR zv).1 _ _ _ P_15.out.sl WANT_15.out.sl).mono ?_
  rintro e w16 ⟨rfl, hb16⟩
  have B16 := Lib.hid (B15.out.trans (hb16.mono B15.out.size))
  have S16 := Lib.hid hb16.size
  have V_16 := Lib.hid (V_15.out.below hb16)
  have P_16 := Lib.hid (P_15.out.below hb16)
  have WANT_16 := Lib.hid (WANT_15.out.below hb16)
  have A_16 := Lib.hid (A_15.out.below hb16)
  have B_16 := Lib.hid (B_15.out.below hb16)
  have X_16 := Lib.hid (X_15.out.below hb16)
  have Y_16 := Lib.hid (Y_15.out.below hb16)
  have Z_16 := Lib.hid (Z_15.out.below hb16)
  have WW_16 := Lib.hid (WW_15.out.below hb16)
  have C_16 := Lib.hid (C_15.out.below hb16)
  have D_16 := Lib.hid (D_15.out.below hb16)
  have U_16 := Lib.hid (U_15.out.below hb16)
  have EE_16 := Lib.hid (EE_15.out.below hb16)
  clear hb16 V_15 P_15 WANT_15 A_15 B_15 X_15 Y_15 Z_15 WW_15 C_15 D_15 U_15 EE_15
  clear WANT_16
  go_wp2_with fail
  refine (same_int (addR za zb).1 _ _ _ X_16.out.sl Y_16.out.sl).mono ?_
  rintro e w17 ⟨rfl, hb17⟩
  have B17 := Lib.hid (B16.out.trans (hb17.mono B16.out.size))
  have S17 := Lib.hid hb17.size
  have V_17 := Lib.hid (V_16.out.below hb17)
  have P_17 := Lib.hid (P_16.out.below hb17)
  have A_17 := Lib.hid (A_16.out.below hb17)
  have B_17 := Lib.hid (B_16.out.below hb17)
  have X_17 := Lib.hid (X_16.out.below hb17)
  have Y_17 := Lib.hid (Y_16.out.below hb17)
  have Z_17 := Lib.hid (Z_16.out.below hb17)
  have WW_17 := Lib.hid (WW_16.out.below hb17)
  have C_17 := Lib.hid (C_16.out.below hb17)
  have D_17 := Lib.hid (D_16.out.below hb17)
  have U_17 := Lib.hid (U_16.out.below hb17)
  have EE_17 := Lib.hid (EE_16.out.below hb17)
  clear hb17 V_16 P_16 A_16 B_16 X_16 Y_16 Z_16 WW_16 C_16 D_16 U_16 EE_16
  clear X_17
  clear Y_17
  go_wp2_with fail
  refine (same_int (scaleR zt k).1 _ _ _ Z_17.out.sl WW_17.out.sl).mono ?_
  rintro e w18 ⟨rfl, hb18⟩
  have B18 := Lib.hid (B17.out.trans (hb18.mono B17.out.size))
  have S18 := Lib.hid hb18.size
  have V_18 := Lib.hid (V_17.out.below hb18)
  have P_18 := Lib.hid (P_17.out.below hb18)
  have A_18 := Lib.hid (A_17.out.below hb18)
  have B_18 := Lib.hid (B_17.out.below hb18)
  have Z_18 := Lib.hid (Z_17.out.below hb18)
  have WW_18 := Lib.hid (WW_17.out.below hb18)
  have C_18 := Lib.hid (C_17.out.below hb18)
  have D_18 := Lib.hid (D_17.out.below hb18)
  have U_18 := Lib.hid (U_17.out.below hb18)
  have EE_18 := Lib.hid (EE_17.out.below hb18)
  clear hb18 V_17 P_17 A_17 B_17 Z_17 WW_17 C_17 D_17 U_17 EE_17
  clear Z_18
  clear WW_18
  go_wp2_with fail
  refine (i_beforev zc zd _ _ _ C_18.out.sl D_18.out.sl).mono ?_
  rintro e w19 ⟨rfl, hb19⟩
  have B19 := Lib.hid (B18.out.trans (hb19.mono B18.out.size))
  have S19 := Lib.hid hb19.size
  have V_19 := Lib.hid (V_18.out.below hb19)
  have P_19 := Lib.hid (P_18.out.below hb19)
  have A_19 := Lib.hid (A_18.out.below hb19)
  have B_19 := Lib.hid (B_18.out.below hb19)
  have C_19 := Lib.hid (C_18.out.below hb19)
  have D_19 := Lib.hid (D_18.out.below hb19)
  have U_19 := Lib.hid (U_18.out.below hb19)
  have EE_19 := Lib.hid (EE_18.out.below hb19)
  clear hb19 V_18 P_18 A_18 B_18 C_18 D_18 U_18 EE_18
  go_wp2_with fail
  refine (s_beforev zc zd _ _ _ C_19.out.sl D_19.out.sl).mono ?_
  rintro e w20 ⟨rfl, hb20⟩
  have B20 := Lib.hid (B19.out.trans (hb20.mono B19.out.size))
  have S20 := Lib.hid hb20.size
  have V_20 := Lib.hid (V_19.out.below hb20)
  have P_20 := Lib.hid (P_19.out.below hb20)
  have A_20 := Lib.hid (A_19.out.below hb20)
  have B_20 := Lib.hid (B_19.out.below hb20)
  have C_20 := Lib.hid (C_19.out.below hb20)
  have D_20 := Lib.hid (D_19.out.below hb20)
  have U_20 := Lib.hid (U_19.out.below hb20)
  have EE_20 := Lib.hid (EE_19.out.below hb20)
  clear hb20 V_19 P_19 A_19 B_19 C_19 D_19 U_19 EE_19
  clear C_20
  clear D_20
  go_wp2_with fail
  refine (same_int (parsV st.data.toList).1 _ _ _ U_20.out.sl EE_20.out.sl).mono ?_
  rintro e w21 ⟨rfl, hb21⟩
  have B21 := Lib.hid (B20.out.trans (hb21.mono B20.out.size))
  have S21 := Lib.hid hb21.size
  have V_21 := Lib.hid (V_20.out.below hb21)
  have P_21 := Lib.hid (P_20.out.below hb21)
  have A_21 := Lib.hid (A_20.out.below hb21)
  have B_21 := Lib.hid (B_20.out.below hb21)
  have U_21 := Lib.hid (U_20.out.below hb21)
  have EE_21 := Lib.hid (EE_20.out.below hb21)
  clear hb21 V_20 P_20 A_20 B_20 U_20 EE_20
  clear U_21
  clear EE_21
  go_wp2_with fail
  refine (i_dotof za zb _ _ _ A_21.out.sl B_21.out.sl).mono ?_
  rintro e w22 ⟨rfl, hb22⟩
  have B22 := Lib.hid (B21.out.trans (hb22.mono B21.out.size))
  have S22 := Lib.hid hb22.size
  have V_22 := Lib.hid (V_21.out.below hb22)
  have P_22 := Lib.hid (P_21.out.below hb22)
  have A_22 := Lib.hid (A_21.out.below hb22)
  have B_22 := Lib.hid (B_21.out.below hb22)
  clear hb22 V_21 P_21 A_21 B_21
  go_wp2_with fail
  refine (s_dotof za zb _ _ _ A_22.out.sl B_22.out.sl).mono ?_
  rintro e w23 ⟨rfl, hb23⟩
  have B23 := Lib.hid (B22.out.trans (hb23.mono B22.out.size))
  have S23 := Lib.hid hb23.size
  have V_23 := Lib.hid (V_22.out.below hb23)
  have P_23 := Lib.hid (P_22.out.below hb23)
  have A_23 := Lib.hid (A_22.out.below hb23)
  have B_23 := Lib.hid (B_22.out.below hb23)
  clear hb23 V_22 P_22 A_22 B_22
  clear A_23
  clear B_23
  go_wp2_with fail
  refine (i_isv zv _ _ V_23.out.sl).mono ?_
  rintro e w24 ⟨rfl, hb24⟩
  have B24 := Lib.hid (B23.out.trans (hb24.mono B23.out.size))
  have S24 := Lib.hid hb24.size
  have V_24 := Lib.hid (V_23.out.below hb24)
  have P_24 := Lib.hid (P_23.out.below hb24)
  clear hb24 V_23 P_23
  go_wp2_with fail
  refine (s_isv zv _ _ V_24.out.sl).mono ?_
  rintro e w25 ⟨rfl, hb25⟩
  have B25 := Lib.hid (B24.out.trans (hb25.mono B24.out.size))
  have S25 := Lib.hid hb25.size
  have V_25 := Lib.hid (V_24.out.below hb25)
  have P_25 := Lib.hid (P_24.out.below hb25)
  clear hb25 V_24 P_24
  go_wp2_with fail
  refine (i_text zv _ _ (X0.out.below B25.out).pow V_25.out.sl).mono ?_
  rintro e w26 ⟨rfl, hb26⟩
  have B26 := Lib.hid (B25.out.trans (hb26.mono B25.out.size))
  have S26 := Lib.hid hb26.size
  have V_26 := Lib.hid (V_25.out.below hb26)
  have P_26 := Lib.hid (P_25.out.below hb26)
  clear hb26 V_25 P_25
  by_cases h1 : isV zv = true
  · have hsz := textV_size zv
    have hts : (⟨(textV zv).toArray⟩ : ByteArray).size ≤ 1048576 := by show (textV zv).toArray.size ≤ 1048576; simp; omega
    have HPT := Lib.hid (pars_text h1)
    have HIV := Lib.hid h1
    have hself : ((⟨(textV zv).toArray⟩ : ByteArray).toList == (⟨(textV zv).toArray⟩ : ByteArray).toList) = true := by simp
    go_wp2_with fail
    refine (i_pars ⟨(textV zv).toArray⟩ hts _ (X0.out.below B26.out) (X1.out.below B26.out)).mono ?_
    rintro e w27 ⟨⟨r, rfl, ho⟩, hb27⟩
    have B27 := Lib.hid (B26.out.trans (hb27.mono B26.out.size))
    have S27 := Lib.hid hb27.size
    have V_27 := Lib.hid (V_26.out.below hb27)
    have P_27 := Lib.hid (P_26.out.below hb27)
    have FF_27 := Lib.hid ho
    clear hb27 V_26 P_26 ho
    have hpt : parsV (⟨(textV zv).toArray⟩ : ByteArray).data.toList = (zv, true) := HPT.out
    rw [hpt]
    rw [hpt] at FF_27
    clear hpt hsz
    go_wp2_with fail
    refine (s_text zv _ _ V_27.out.sl).mono ?_
    rintro e w28 ⟨rfl, hb28⟩
    have B28 := Lib.hid (B27.out.trans (hb28.mono B27.out.size))
    have S28 := Lib.hid hb28.size
    have V_28 := Lib.hid (V_27.out.below hb28)
    have P_28 := Lib.hid (P_27.out.below hb28)
    have FF_28 := Lib.hid (FF_27.out.below hb28)
    clear hb28 V_27 P_27 FF_27
    go_wp2_with fail
    refine (s_isv zv _ _ V_28.out.sl).mono ?_
    rintro e w29 ⟨rfl, hb29⟩
    rw [HIV.out]
    have B29 := Lib.hid (B28.out.trans (hb29.mono B28.out.size))
    have S29 := Lib.hid hb29.size
    have V_29 := Lib.hid (V_28.out.below hb29)
    have P_29 := Lib.hid (P_28.out.below hb29)
    have FF_29 := Lib.hid (FF_28.out.below hb29)
    clear hb29 V_28 P_28 FF_28
    go_wp2_with fail
    refine (same_int zv _ _ _ FF_29.out.sl V_29.out.sl).mono ?_
    rintro e w30 ⟨rfl, hb30⟩
    have B30 := Lib.hid (B29.out.trans (hb30.mono B29.out.size))
    have S30 := Lib.hid hb30.size
    have V_30 := Lib.hid (V_29.out.below hb30)
    have P_30 := Lib.hid (P_29.out.below hb30)
    have FF_30 := Lib.hid (FF_29.out.below hb30)
    clear hb30 V_29 P_29 FF_29
    clear FF_30
    by_cases h2 : 0 < allG zv
    · have HG := Lib.hid (show gcdR zv = allG zv from if_pos HIV.out)
      have hgp := h2
      have HPR := Lib.hid (show primR zv = (primL zv, true) from if_pos ⟨HIV.out, h2⟩)
      have HSC := Lib.hid (scale_prim h2)
      have HGP := Lib.hid (show gcdR (primL zv) = 1 by rw [show gcdR (primL zv) = allG (primL zv) from if_pos (isV_prim HIV.out), allG_prim h2])
      have hpl := (isV_t (isV_prim HIV.out)).2.1
      have HPB := Lib.hid (small_bd (isV_t (isV_prim HIV.out)).2.2)
      have hgb := allG_bd (show (0 : Int) ≤ 1000 by omega) (small_bd (isV_t HIV.out).2.2) zv.length (Nat.le_refl _)
      rw [List.take_length] at hgb
      rw [HPR.out] at P_30
      rw [HPR.out, HG.out]
      skip
      go_wp2_with fail
      refine (l_scaled (primL zv) (by omega) 1000 1000 (allG zv) HPB.out (by omega) hgb (by omega) _ _ P_30.out.sl).mono ?_
      rintro e w31 ⟨⟨r, rfl, ho⟩, hb31⟩
      have B31 := Lib.hid (B30.out.trans (hb31.mono B30.out.size))
      have S31 := Lib.hid hb31.size
      have V_31 := Lib.hid (V_30.out.below hb31)
      have P_31 := Lib.hid (P_30.out.below hb31)
      have Q_31 := Lib.hid ho
      clear hb31 V_30 P_30 ho
      rw [HSC.out] at Q_31
      go_wp2_with fail
      refine (same_int zv _ _ _ Q_31.out.sl V_31.out.sl).mono ?_
      rintro e w32 ⟨rfl, hb32⟩
      have B32 := Lib.hid (B31.out.trans (hb32.mono B31.out.size))
      have S32 := Lib.hid hb32.size
      have V_32 := Lib.hid (V_31.out.below hb32)
      have P_32 := Lib.hid (P_31.out.below hb32)
      have Q_32 := Lib.hid (Q_31.out.below hb32)
      clear hb32 V_31 P_31 Q_31
      clear Q_32
      go_wp2_with fail
      refine (i_gcdof (primL zv) _ _ P_32.out.sl).mono ?_
      rintro e w33 ⟨rfl, hb33⟩
      rw [HGP.out]
      have B33 := Lib.hid (B32.out.trans (hb33.mono B32.out.size))
      have S33 := Lib.hid hb33.size
      have V_33 := Lib.hid (V_32.out.below hb33)
      have P_33 := Lib.hid (P_32.out.below hb33)
      clear hb33 V_32 P_32
      go_wp2_with fail
      go_ret
      exact ⟨rfl, B33.out⟩
    · have HPR := Lib.hid (show primR zv = ([], false) from if_neg (fun h => h2 h.2))
      rw [HPR.out]
      clear h2
      go_wp2_with fail
      go_ret
      exact ⟨rfl, B30.out⟩
  · have hsz := textV_size zv
    have hts : (⟨(textV zv).toArray⟩ : ByteArray).size ≤ 1048576 := by show (textV zv).toArray.size ≤ 1048576; simp; omega
    have HPT := Lib.hid (pars_none h1)
    have HIV := Lib.hid (bool_f h1)
    have hself : ((⟨(textV zv).toArray⟩ : ByteArray).toList == (⟨(textV zv).toArray⟩ : ByteArray).toList) = true := by simp
    go_wp2_with fail
    refine (i_pars ⟨(textV zv).toArray⟩ hts _ (X0.out.below B26.out) (X1.out.below B26.out)).mono ?_
    rintro e w27 ⟨⟨r, rfl, ho⟩, hb27⟩
    have B27 := Lib.hid (B26.out.trans (hb27.mono B26.out.size))
    have S27 := Lib.hid hb27.size
    have V_27 := Lib.hid (V_26.out.below hb27)
    have P_27 := Lib.hid (P_26.out.below hb27)
    have FF_27 := Lib.hid ho
    clear hb27 V_26 P_26 ho
    have hpt : parsV (⟨(textV zv).toArray⟩ : ByteArray).data.toList = ([], false) := HPT.out
    rw [hpt]
    rw [hpt] at FF_27
    clear hpt hsz
    go_wp2_with fail
    refine (s_text zv _ _ V_27.out.sl).mono ?_
    rintro e w28 ⟨rfl, hb28⟩
    have B28 := Lib.hid (B27.out.trans (hb28.mono B27.out.size))
    have S28 := Lib.hid hb28.size
    have V_28 := Lib.hid (V_27.out.below hb28)
    have P_28 := Lib.hid (P_27.out.below hb28)
    have FF_28 := Lib.hid (FF_27.out.below hb28)
    clear hb28 V_27 P_27 FF_27
    go_wp2_with fail
    refine (s_isv zv _ _ V_28.out.sl).mono ?_
    rintro e w29 ⟨rfl, hb29⟩
    rw [HIV.out]
    have B29 := Lib.hid (B28.out.trans (hb29.mono B28.out.size))
    have S29 := Lib.hid hb29.size
    have V_29 := Lib.hid (V_28.out.below hb29)
    have P_29 := Lib.hid (P_28.out.below hb29)
    have FF_29 := Lib.hid (FF_28.out.below hb29)
    clear hb29 V_28 P_28 FF_28
    have HPR := Lib.hid (show primR zv = ([], false) from if_neg (fun h => by have h1 := h.1; rw [HIV.out] at h1; cases h1))
    rw [HPR.out]
    go_wp2_with fail
    go_ret
    exact ⟨rfl, B29.out⟩

theorem walk (l : List Int) (a : Option Addr) (n c : Nat) (w : World) (hlen : l.length = n) (hs : Sl w (.slice a n c) (numVals .u8 l)) (hz : ∀ z ∈ l, (Lit.int .u8 z).wf = true) (E0 : Vars w) (E1 : HasMax w) :
    Calls Tryz.prog 3 #[.slice a n c] w fun e w' => e = .returned (.bool true) ∧ Below w.heap.size w w' := by
  by_cases hl : n ≤ 1048576
  · have hc := code_in hlen hs hz hl
    subst hlen
    exact walk_small a c l w hc E0 E1
  · exact walk_big a n c (by omega) w

theorem own : ownKnob Tryz.prog.godebug = none := by kernel_rfl
theorem laidOut : laidOutB Tryz.prog = true := by kernel_rfl


set_option maxRecDepth 100000 in
set_option linter.unusedVariables false in
theorem contract (H : Type) (enc : TypeId × Value → H) (W : World) (base : Nat) (args : Array Value) (ds gs : List (DataW H)) (before : List MemPlace)
    (hval : ∀ (j : Nat) t v, Tryz.f3.params[j]? = some t → args[j]? = some v → Value.okWide Tryz.prog W .any base t v)
    (hW : DataW.Whole enc Tryz.prog Tryz.f3.params.toList Rows.fnVectorsSpec.vars false W args.toList ds gs before) (hL : laidMetH Tryz.prog Rows.fnVectorsRow.laid W) (hS : W.ShapedOpen Tryz.prog) :
    Calls Tryz.prog 3 args W fun e W' => ∃ v, e = .returned v ∧ Rows.fnVectorsSpec.post enc Tryz.prog Tryz.f3 false true false false W args v W' := by
  have hW' := hW
  obtain ⟨p, q, hA0, hV, rfl, hfz, hnd⟩ := hW
  have hA : DataW.TrodAll enc Tryz.prog W 0 (fun _ => true) true Tryz.f3.params.toList args.toList ds p := hA0
  rw [Tryz.params3] at hA hval
  obtain ⟨v0, vs0, d0, ds0, p0, q0, hargs, rfl, rfl, h0, r0⟩ := trodAll_cons hA
  obtain ⟨rfl, rfl, rfl⟩ := trodAll_nil r0
  obtain rfl : args = #[v0] := by cases args; simp_all
  obtain ⟨lA, lL, lC, rfl⟩ := okWide_slice Tryz.underlying22 (hval 0 22 v0 rfl rfl)
  obtain ⟨l, wl⟩ : ∃ zs : List Int, zs.length = lL ∧ Sl W (.slice lA lL lC) (numVals .u8 zs) ∧ ∀ z ∈ zs, (Lit.int .u8 z).wf = true := by
    obtain ⟨fuel, hf⟩ := h0
    exact nums_came Tryz.underlying22 Tryz.underlying5 (by kernel_rfl) hf
  refine (walk l _ _ _ W wl.1 wl.2.1 wl.2.2 (vars_of hL) (max_of hS)).mono fun e W' ⟨he, hb⟩ => ?_
  subst he
  exact ⟨_, rfl, law_post laidOut (by kernel_rfl) rfl Tryz.underlying4 rfl hW' (fun ds' h => by match ds', h with | [d0], _ => rfl) hb⟩


def laidCells : List (DataW Unit) → Array Value := fun l => (l.flatMap fun | .lit (.int k z) => [Value.int k z] | .agg m => (m.map fun | .lit (.int k z) => Value.int k z | _ => .int .i64 0) | _ => []).toArray
def aggCells : DataW Unit → Array Value
  | .agg l => laidCells l
  | _ => #[]
def sentText : DataW Unit → List UInt8
  | .iface _ (.ptr (.agg [.lit (.string l)])) => l
  | _ => []
/-- A world for the witness: the settled one, the listed variables holding what their initialisers lay. -/
noncomputable def laidWorld (os : Os) : World :=
  let N := (World.settled Tryz.prog os).heap.size
  let put (h : Array Obj) (g : Nat) (cs : Array Value) : Array Obj := h.modify g fun
    | .cells _ t frozen => .cells cs t frozen
    | o => o
  let w0 := World.holding Tryz.prog os ⟨#[.cells #[.string ⟨(sentText Rows.laid_strconv_ErrRange).toArray⟩] 226, .cells #[.string ⟨(sentText Rows.laid_strconv_ErrSyntax).toArray⟩] 226], #[], []⟩
  let h := w0.heap
  let h := put h 6 (aggCells Rows.laid_math_bits_deBruijn32tab)
  let h := put h 7 (aggCells Rows.laid_math_bits_deBruijn64tab)
  let h := put h 3 (aggCells Rows.laid_internal_strconv_uint64pow10)
  let h := put h 5 (aggCells Rows.laid_unicode_utf8_acceptRanges)
  let h := put h 2 #[.iface 224 (.pointer (some ⟨N + 0, 0, none⟩))]
  let h := put h 1 #[.iface 224 (.pointer (some ⟨N + 1, 0, none⟩))]
  let h := put h 4 (aggCells Rows.laid_unicode_utf8_first)
  { w0 with heap := h }
theorem laid_met (os : Os) : laidMet Tryz.prog Rows.fnVectorsRow.laid ((laidWorld os).forCall (fun _ _ => 0) ⟨#[], #[.slice none 0 0], []⟩).memory :=
  laidMet_of_run' 8 (by kernel_rfl) (by kernel_rfl)
theorem reads (os : Os) {H : Type} (enc : TypeId × Value → H) : ∃ places, DataW.whole enc Tryz.prog ((laidWorld os).forCall (fun _ _ => 0) ⟨#[], #[.slice none 0 0], []⟩).memory Tryz.f3.params.toList Rows.fnVectorsSpec.vars false (#[.slice none 0 0] : Array Value).toList 8 = some ([.nil], [], places) :=
  ⟨[], by kernel_rfl⟩

set_option maxRecDepth 100000 in
theorem lifted (os : Os) (started : os.Started) (H : Type) (enc : TypeId × Value → H) (F : Stop.Interp) :
    ReturnsInHanded {} Tryz.checked os 3 .any ((OpenSpec.ofChange Rows.fnVectorsSpec).preRow enc Tryz.prog Tryz.f3 Rows.fnVectorsRow.domain false Rows.fnVectorsRow.laid) (((OpenSpec.ofChange Rows.fnVectorsSpec).at F).post enc Tryz.prog Tryz.f3 false true false false) := by
  obtain ⟨places, hx⟩ := reads os enc
  refine returnsInHanded_of_row (C := Tryz.checked) (s := (OpenSpec.ofChange Rows.fnVectorsSpec)) own started (by kernel_rfl) Tryz.func3
    (witness_row_atRef (enc := enc) (C := Tryz.checked) false (laidWorld os) #[.slice none 0 0] rfl (by kernel_rfl) (by kernel_rfl) (by kernel_rfl)
      (OpenSpec.preRow_of_cond 8 hx (by kernel_rfl) (fun k hk => by cases hk) (by kernel_rfl) (laid_met os))) ?_
  intro W base args ds gs before hval hW _ hcond _ hL hS _
  exact contract H enc W base args ds gs before hval hW hL hS

theorem said : Rows.FnVectorsSaid :=
  OpenClaim.holds_of_cond 3 Tryz.f3 rfl rfl rfl rfl rfl rfl rfl ⟨rfl, rfl, rfl, rfl, rfl⟩ rfl rfl rfl rfl rfl (by kernel_rfl) Tryz.func3 (by kernel_rfl)
    (of_decide_eq_true (by kernel_rfl)) (by unfold Func.isWrapper; first | (rw [if_pos (by decide +kernel)]; kernel_rfl) | (rw [if_neg (by decide +kernel)]; exact ⟨rfl, rfl⟩))
    (fun os started H enc _ F => by rw [OpenClaim.pre_eq_preRow]; exact lifted os started H enc F)

theorem plain (f : FuncId) (fn : Func) (hf : Tryz.pinned.checked.prog.funcNamed "loop.example/g00959/laws.FnVectors" = some f) (hfn : Tryz.pinned.checked.prog.funcs[f]? = some fn) :
    true = Tryz.pinned.checked.prog.looks [] ∧ ∀ (j : Nat) t, fn.params[j]? = some t → Tryz.pinned.checked.prog.wantsStandIn t = false := by
  obtain rfl : f = 3 := Option.some.inj ((show Tryz.prog.funcNamed "loop.example/g00959/laws.FnVectors" = some 3 by kernel_rfl).symm.trans hf) |>.symm
  obtain rfl : fn = Tryz.f3 := (Option.some.inj (Tryz.func3.symm.trans hfn)).symm
  refine ⟨by kernel_rfl, fun j t ht => ?_⟩
  rw [Tryz.params3] at ht
  have hall : (Tryz.f3.params.all fun t => !Tryz.prog.wantsStandIn t) = true := by kernel_rfl
  have hm := Array.mem_of_getElem? ht
  rw [← Tryz.params3] at hm
  have := (Array.all_eq_true_iff_forall_mem.1 hall) t hm
  have h2 : Tryz.prog.wantsStandIn t = false := by simpa using this
  exact h2

theorem card : Rows.FnVectorsCardSaid :=
  Claim7.holds_tied_plain_at .later [] _ _ _ _ said (fun _ h => by cases h) (by kernel_rfl) (fun _ h => by cases h) fnVectors_row_tie rfl ⟨rfl, rfl⟩ (by kernel_rfl) rfl plain (by kernel_rfl)
end Go.Proofs.YtmogncpkdkdodaaGreatDoor.fnVectors
