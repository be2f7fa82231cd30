/- FnLattices holds for every input. Conditions: none. -/
import Derived.Test.YtjijgagdaolkcaaGreatMaz
import Derived.Test.YtjijgagdaolkcaaGreatDrawMat5
import Derived.Test.YtjijgagdaolkcaaGreatMav
import Derived.Test.YtjijgagdaolkcaaGreatMbc
import Derived.Test.YtjijgagdaolkcaaGreatCode
import Derived.Test.YtjijgagdaolkcaaGreatMbl
import Derived.Test.YtjijgagdaolkcaaGreatMbn
import Derived.Test.YtjijgagdaolkcaaGreatMbg
import Derived.Test.YtjijgagdaolkcaaGreatLaw
import Derived.Test.YtjijgagdaolkcaaGreatRows
namespace Go.Proofs.YtjijgagdaolkcaaGreat.fnLattices
open Go.ChangeShapes Go.WideShapes Go.ChangeAt Go.RowKit Go.Lib
open Go.ChangeMaps (open_string shut_string)
theorem leaders_few (m : List (List Int)) : (leadersR m).length ≤ 500 := by
  by_cases h : leadersR m = []
  · rw [h]; simp
  · obtain ⟨h1, _⟩ := law_all h
    unfold leadersR at h
    split at h
    · rename_i k; have := k.2; omega
    · exact absurd rfl h
set_option maxRecDepth 100000 in
set_option maxHeartbeats 400000 in
theorem walk_big (a : Option Addr) (n c : Nat) (hl : 1048576 < n) (w : World) :
    Calls Tryz.prog 3 #[.slice a n c] w fun e w' => e = .returned (.bool true) ∧ Below w.heap.size w w' := by
  have hd : decide ((1048576 : Int) < n) = true := by simp; omega
  go_enter Tryz.func3, Tryz.ntmps3
  go_wp2_with fail
  refine (big_any a n c _).mono ?_
  rintro e w1 ⟨rfl, rfl⟩
  rw [hd]
  go_wp2_with fail
  go_ret
  exact ⟨rfl, Below.refl _ _⟩
set_option linter.unusedVariables false in
set_option maxRecDepth 100000 in
set_option maxHeartbeats 12800000 in
theorem walk_small (a : Option Addr) (c : Nat) (zs : List Int) (w : World) (hc : CodeIn w a zs) :
    Calls Tryz.prog 3 #[.slice a zs.length c] w fun e w' => e = .returned (.bool true) ∧ Below w.heap.size w w' := by
  have hd : decide ((1048576 : Int) < zs.length) = false := by have := hc.1; simp; omega
  have HC := Lib.hid hc
  have HD := Lib.hid hd
  clear hc hd
  have B0 := Lib.hid (Below.refl w.heap.size w)
  go_enter Tryz.func3, Tryz.ntmps3
  go_wp2_with fail
  refine (big_any a zs.length c _).mono ?_
  rintro e w1 ⟨rfl, rfl⟩
  rw [HD.out]
  go_wp2_with fail
  refine (d_cellpoints a c zs w _ B0.out HC.out).mono ?_
  rintro e w1 ⟨⟨v1, m, rfl, -, hm⟩, hb1⟩
  obtain ⟨ma, mc, rfl, _, _⟩ := hm.rw.shape
  have B1 := Lib.hid (B0.out.trans (hb1.mono B0.out.size))
  have S1 := Lib.hid hb1.size
  have M_1 := Lib.hid hm.rw
  clear hb1 hm
  have LA := Lib.hid (fun h => law_all (m := m) h)
  have CC1 := Lib.hid (fun v W (h : Rw W v m) => i_cells8 m v W h)
  have CC2 := Lib.hid (fun v W (h : Rw W v m) => s_cells8 m v W h)
  obtain ⟨CR, eCR⟩ : ∃ q, cellsR m = q := ⟨_, rfl⟩
  rw [eCR] at CC1 CC2
  have ECR := Lib.hid eCR
  clear eCR
  have CL1 := Lib.hid (fun v W (h : Rw W v m) => i_leaders8 m v W h)
  have CL2 := Lib.hid (fun v W (h : Rw W v m) => s_leaders8 m v W h)
  obtain ⟨AR, eAR⟩ : ∃ q, leadersR m = q := ⟨_, rfl⟩
  rw [eAR] at CL1 CL2
  have EAR := Lib.hid eAR
  clear eAR
  have CI1 := Lib.hid (fun v W (h : Rw W v m) => i_index8 m v W h)
  have CI2 := Lib.hid (fun v W (h : Rw W v m) => s_index8 m v W h)
  obtain ⟨IR, eIR⟩ : ∃ q, indexR m = q := ⟨_, rfl⟩
  rw [eIR] at CI1 CI2
  have EIR := Lib.hid eIR
  clear eIR
  rw [ECR.out, EAR.out, EIR.out] at LA
  go_wp2_with fail
  refine (CC1.out _ _ M_1.out).mono ?_
  rintro e w2 ⟨⟨cv, rfl, hcv⟩, hb2⟩
  obtain ⟨ca, cc, rfl, hcm, _⟩ := hcv.rw.shape
  unfold maxLen at hcm
  have HCM := Lib.hid hcm
  clear hcm
  have B2 := Lib.hid (B1.out.trans (hb2.mono B1.out.size))
  have S2 := Lib.hid hb2.size
  have M_2 := Lib.hid (M_1.out.below hb2)
  have C_2 := Lib.hid hcv.rw
  clear hb2 M_1 hcv
  go_wp2_with fail
  refine (CL1.out _ _ M_2.out).mono ?_
  rintro e w3 ⟨⟨av, rfl, hav⟩, hb3⟩
  obtain ⟨aa, ac, rfl, _, _⟩ := hav.rw.shape
  have B3 := Lib.hid (B2.out.trans (hb3.mono B2.out.size))
  have S3 := Lib.hid hb3.size
  have M_3 := Lib.hid (M_2.out.below hb3)
  have C_3 := Lib.hid (C_2.out.below hb3)
  have A_3 := Lib.hid hav.rw
  clear hb3 M_2 C_2 hav
  go_wp2_with fail
  refine (d_classleader a c zs w _ B3.out HC.out).mono ?_
  rintro e w4 ⟨⟨_, _, m2, x2, rfl, -, hm2, hx2⟩, hb4⟩
  obtain ⟨m2a, m2c, rfl, _, _⟩ := hm2.rw.shape
  obtain ⟨x2a, x2c, rfl, _⟩ := hx2.shape1
  rw [intVals_len] at hx2 ⊢
  have B4 := Lib.hid (B3.out.trans (hb4.mono B3.out.size))
  have S4 := Lib.hid hb4.size
  have M_4 := Lib.hid (M_3.out.below hb4)
  have C_4 := Lib.hid (C_3.out.below hb4)
  have A_4 := Lib.hid (A_3.out.below hb4)
  have M2_4 := Lib.hid hm2.rw
  have X2_4 := Lib.hid hx2.sl
  clear hb4 M_3 C_3 A_3 hm2 hx2
  have CD1 := Lib.hid (fun v b W (h : Rw W v m2) (h2 : Sl W b (intVals x2)) => i_clead m2 x2 v b W h h2)
  have CD2 := Lib.hid (fun v b W (h : Rw W v m2) (h2 : Sl W b (intVals x2)) => s_clead m2 x2 v b W h h2)
  obtain ⟨LR, eLR⟩ : ∃ q, leadR m2 x2 = q := ⟨_, rfl⟩
  rw [eLR] at CD1 CD2
  have ELR := Lib.hid eLR
  clear eLR
  obtain ⟨LL, ok⟩ := LR
  go_wp2_with fail
  refine (CD1.out _ _ _ M2_4.out X2_4.out).mono ?_
  rintro e w5 ⟨⟨_, rfl, hl⟩, hb5⟩
  dsimp only at hl ⊢
  obtain ⟨lpa, lpc, rfl, _⟩ := hl.shape1
  rw [intVals_len] at hl ⊢
  have B5 := Lib.hid (B4.out.trans (hb5.mono B4.out.size))
  have S5 := Lib.hid hb5.size
  have M_5 := Lib.hid (M_4.out.below hb5)
  have C_5 := Lib.hid (C_4.out.below hb5)
  have A_5 := Lib.hid (A_4.out.below hb5)
  have M2_5 := Lib.hid (M2_4.out.below hb5)
  have X2_5 := Lib.hid (X2_4.out.below hb5)
  have L1_5 := Lib.hid hl.sl
  clear hb5 M_4 C_4 A_4 M2_4 X2_4 hl
  go_wp2_with fail
  refine (CD2.out _ _ _ M2_5.out X2_5.out).mono ?_
  rintro e w6 ⟨⟨_, rfl, hl⟩, hb6⟩
  dsimp only at hl ⊢
  obtain ⟨lqa, lqc, rfl, _⟩ := hl.shape1
  rw [intVals_len] at hl ⊢
  have B6 := Lib.hid (B5.out.trans (hb6.mono B5.out.size))
  have S6 := Lib.hid hb6.size
  have M_6 := Lib.hid (M_5.out.below hb6)
  have C_6 := Lib.hid (C_5.out.below hb6)
  have A_6 := Lib.hid (A_5.out.below hb6)
  have M2_6 := Lib.hid (M2_5.out.below hb6)
  have X2_6 := Lib.hid (X2_5.out.below hb6)
  have L1_6 := Lib.hid (L1_5.out.below hb6)
  have L2_6 := Lib.hid hl.sl
  clear hb6 M_5 C_5 A_5 M2_5 X2_5 L1_5 hl
  go_wp2_with fail
  refine (d_sameclass a c zs w _ B6.out HC.out).mono ?_
  rintro e w7 ⟨⟨_, _, _, m3, x3, y3, rfl, -, hm3, hx3, hy3⟩, hb7⟩
  obtain ⟨m3a, m3c, rfl, _, _⟩ := hm3.rw.shape
  obtain ⟨x3a, x3c, rfl, _⟩ := hx3.shape1
  obtain ⟨y3a, y3c, rfl, _⟩ := hy3.shape1
  rw [intVals_len] at hx3 hy3 ⊢
  rw [intVals_len]
  have B7 := Lib.hid (B6.out.trans (hb7.mono B6.out.size))
  have S7 := Lib.hid hb7.size
  have M_7 := Lib.hid (M_6.out.below hb7)
  have C_7 := Lib.hid (C_6.out.below hb7)
  have A_7 := Lib.hid (A_6.out.below hb7)
  have M2_7 := Lib.hid (M2_6.out.below hb7)
  have X2_7 := Lib.hid (X2_6.out.below hb7)
  have L1_7 := Lib.hid (L1_6.out.below hb7)
  have L2_7 := Lib.hid (L2_6.out.below hb7)
  have M3_7 := Lib.hid hm3.rw
  have X3_7 := Lib.hid hx3.sl
  have Y3_7 := Lib.hid hy3.sl
  clear hb7 M_6 C_6 A_6 M2_6 X2_6 L1_6 L2_6 hm3 hx3 hy3
  have CS1 := Lib.hid (fun v b d W (h : Rw W v m3) (h2 : Sl W b (intVals x3)) (h3 : Sl W d (intVals y3)) => i_same8 m3 x3 y3 v b d W h h2 h3)
  have CS2 := Lib.hid (fun v b d W (h : Rw W v m3) (h2 : Sl W b (intVals x3)) (h3 : Sl W d (intVals y3)) => s_same8 m3 x3 y3 v b d W h h2 h3)
  obtain ⟨SR, eSR⟩ : ∃ q, sameR m3 x3 y3 = q := ⟨_, rfl⟩
  rw [eSR] at CS1 CS2
  have ESR := Lib.hid eSR
  clear eSR
  go_wp2_with fail
  refine (CC2.out _ _ M_7.out).mono ?_
  rintro e w8 ⟨⟨cv2, rfl, hcv⟩, hb8⟩
  obtain ⟨c2a, c2c, rfl, _, _⟩ := hcv.rw.shape
  have B8 := Lib.hid (B7.out.trans (hb8.mono B7.out.size))
  have S8 := Lib.hid hb8.size
  have M_8 := Lib.hid (M_7.out.below hb8)
  have C_8 := Lib.hid (C_7.out.below hb8)
  have A_8 := Lib.hid (A_7.out.below hb8)
  have M2_8 := Lib.hid (M2_7.out.below hb8)
  have X2_8 := Lib.hid (X2_7.out.below hb8)
  have L1_8 := Lib.hid (L1_7.out.below hb8)
  have L2_8 := Lib.hid (L2_7.out.below hb8)
  have M3_8 := Lib.hid (M3_7.out.below hb8)
  have X3_8 := Lib.hid (X3_7.out.below hb8)
  have Y3_8 := Lib.hid (Y3_7.out.below hb8)
  have C2_8 := Lib.hid hcv.rw
  clear hb8 M_7 C_7 A_7 M2_7 X2_7 L1_7 L2_7 M3_7 X3_7 Y3_7 hcv
  go_wp2_with fail
  refine (same_rows CR _ _ _ C_8.out C2_8.out).mono ?_
  rintro e w9 ⟨rfl, hb9⟩
  have B9 := Lib.hid (B8.out.trans (hb9.mono B8.out.size))
  have S9 := Lib.hid hb9.size
  have M_9 := Lib.hid (M_8.out.below hb9)
  have C_9 := Lib.hid (C_8.out.below hb9)
  have A_9 := Lib.hid (A_8.out.below hb9)
  have M2_9 := Lib.hid (M2_8.out.below hb9)
  have X2_9 := Lib.hid (X2_8.out.below hb9)
  have L1_9 := Lib.hid (L1_8.out.below hb9)
  have L2_9 := Lib.hid (L2_8.out.below hb9)
  have M3_9 := Lib.hid (M3_8.out.below hb9)
  have X3_9 := Lib.hid (X3_8.out.below hb9)
  have Y3_9 := Lib.hid (Y3_8.out.below hb9)
  have C2_9 := Lib.hid (C2_8.out.below hb9)
  clear hb9 M_8 C_8 A_8 M2_8 X2_8 L1_8 L2_8 M3_8 X3_8 Y3_8 C2_8
  go_wp2_with fail
  refine (CL2.out _ _ M_9.out).mono ?_
  rintro e w10 ⟨⟨av2, rfl, hav⟩, hb10⟩
  obtain ⟨a2a, a2c, rfl, _, _⟩ := hav.rw.shape
  have B10 := Lib.hid (B9.out.trans (hb10.mono B9.out.size))
  have S10 := Lib.hid hb10.size
  have M_10 := Lib.hid (M_9.out.below hb10)
  have C_10 := Lib.hid (C_9.out.below hb10)
  have A_10 := Lib.hid (A_9.out.below hb10)
  have M2_10 := Lib.hid (M2_9.out.below hb10)
  have X2_10 := Lib.hid (X2_9.out.below hb10)
  have L1_10 := Lib.hid (L1_9.out.below hb10)
  have L2_10 := Lib.hid (L2_9.out.below hb10)
  have M3_10 := Lib.hid (M3_9.out.below hb10)
  have X3_10 := Lib.hid (X3_9.out.below hb10)
  have Y3_10 := Lib.hid (Y3_9.out.below hb10)
  have C2_10 := Lib.hid (C2_9.out.below hb10)
  have A2_10 := Lib.hid hav.rw
  clear hb10 M_9 C_9 A_9 M2_9 X2_9 L1_9 L2_9 M3_9 X3_9 Y3_9 C2_9 hav
  go_wp2_with fail
  refine (same_rows AR _ _ _ A_10.out A2_10.out).mono ?_
  rintro e w11 ⟨rfl, hb11⟩
  have B11 := Lib.hid (B10.out.trans (hb11.mono B10.out.size))
  have S11 := Lib.hid hb11.size
  have M_11 := Lib.hid (M_10.out.below hb11)
  have C_11 := Lib.hid (C_10.out.below hb11)
  have A_11 := Lib.hid (A_10.out.below hb11)
  have M2_11 := Lib.hid (M2_10.out.below hb11)
  have X2_11 := Lib.hid (X2_10.out.below hb11)
  have L1_11 := Lib.hid (L1_10.out.below hb11)
  have L2_11 := Lib.hid (L2_10.out.below hb11)
  have M3_11 := Lib.hid (M3_10.out.below hb11)
  have X3_11 := Lib.hid (X3_10.out.below hb11)
  have Y3_11 := Lib.hid (Y3_10.out.below hb11)
  have C2_11 := Lib.hid (C2_10.out.below hb11)
  have A2_11 := Lib.hid (A2_10.out.below hb11)
  clear hb11 M_10 C_10 A_10 M2_10 X2_10 L1_10 L2_10 M3_10 X3_10 Y3_10 C2_10 A2_10
  go_wp2_with fail
  refine (same_int LL _ _ _ L1_11.out L2_11.out).mono ?_
  rintro e w12 ⟨rfl, hb12⟩
  have B12 := Lib.hid (B11.out.trans (hb12.mono B11.out.size))
  have S12 := Lib.hid hb12.size
  have M_12 := Lib.hid (M_11.out.below hb12)
  have C_12 := Lib.hid (C_11.out.below hb12)
  have A_12 := Lib.hid (A_11.out.below hb12)
  have M2_12 := Lib.hid (M2_11.out.below hb12)
  have X2_12 := Lib.hid (X2_11.out.below hb12)
  have L1_12 := Lib.hid (L1_11.out.below hb12)
  have L2_12 := Lib.hid (L2_11.out.below hb12)
  have M3_12 := Lib.hid (M3_11.out.below hb12)
  have X3_12 := Lib.hid (X3_11.out.below hb12)
  have Y3_12 := Lib.hid (Y3_11.out.below hb12)
  have C2_12 := Lib.hid (C2_11.out.below hb12)
  have A2_12 := Lib.hid (A2_11.out.below hb12)
  clear hb12 M_11 C_11 A_11 M2_11 X2_11 L1_11 L2_11 M3_11 X3_11 Y3_11 C2_11 A2_11
  go_wp2_with fail
  refine (CS1.out _ _ _ _ M3_12.out X3_12.out Y3_12.out).mono ?_
  rintro e w13 ⟨rfl, hb13⟩
  have B13 := Lib.hid (B12.out.trans (hb13.mono B12.out.size))
  have S13 := Lib.hid hb13.size
  have M_13 := Lib.hid (M_12.out.below hb13)
  have C_13 := Lib.hid (C_12.out.below hb13)
  have A_13 := Lib.hid (A_12.out.below hb13)
  have M2_13 := Lib.hid (M2_12.out.below hb13)
  have X2_13 := Lib.hid (X2_12.out.below hb13)
  have L1_13 := Lib.hid (L1_12.out.below hb13)
  have L2_13 := Lib.hid (L2_12.out.below hb13)
  have M3_13 := Lib.hid (M3_12.out.below hb13)
  have X3_13 := Lib.hid (X3_12.out.below hb13)
  have Y3_13 := Lib.hid (Y3_12.out.below hb13)
  have C2_13 := Lib.hid (C2_12.out.below hb13)
  have A2_13 := Lib.hid (A2_12.out.below hb13)
  clear hb13 M_12 C_12 A_12 M2_12 X2_12 L1_12 L2_12 M3_12 X3_12 Y3_12 C2_12 A2_12
  go_wp2_with fail
  refine (CS2.out _ _ _ _ M3_13.out X3_13.out Y3_13.out).mono ?_
  rintro e w14 ⟨rfl, hb14⟩
  have B14 := Lib.hid (B13.out.trans (hb14.mono B13.out.size))
  have S14 := Lib.hid hb14.size
  have M_14 := Lib.hid (M_13.out.below hb14)
  have C_14 := Lib.hid (C_13.out.below hb14)
  have A_14 := Lib.hid (A_13.out.below hb14)
  have M2_14 := Lib.hid (M2_13.out.below hb14)
  have X2_14 := Lib.hid (X2_13.out.below hb14)
  have L1_14 := Lib.hid (L1_13.out.below hb14)
  have L2_14 := Lib.hid (L2_13.out.below hb14)
  have M3_14 := Lib.hid (M3_13.out.below hb14)
  have X3_14 := Lib.hid (X3_13.out.below hb14)
  have Y3_14 := Lib.hid (Y3_13.out.below hb14)
  have C2_14 := Lib.hid (C2_13.out.below hb14)
  have A2_14 := Lib.hid (A2_13.out.below hb14)
  clear hb14 M_13 C_13 A_13 M2_13 X2_13 L1_13 L2_13 M3_13 X3_13 Y3_13 C2_13 A2_13
  go_wp2_with fail
  refine (CI1.out _ _ M_14.out).mono ?_
  rintro e w15 ⟨rfl, hb15⟩
  have B15 := Lib.hid (B14.out.trans (hb15.mono B14.out.size))
  have S15 := Lib.hid hb15.size
  have M_15 := Lib.hid (M_14.out.below hb15)
  have C_15 := Lib.hid (C_14.out.below hb15)
  have A_15 := Lib.hid (A_14.out.below hb15)
  have M2_15 := Lib.hid (M2_14.out.below hb15)
  have X2_15 := Lib.hid (X2_14.out.below hb15)
  have L1_15 := Lib.hid (L1_14.out.below hb15)
  have L2_15 := Lib.hid (L2_14.out.below hb15)
  have M3_15 := Lib.hid (M3_14.out.below hb15)
  have X3_15 := Lib.hid (X3_14.out.below hb15)
  have Y3_15 := Lib.hid (Y3_14.out.below hb15)
  have C2_15 := Lib.hid (C2_14.out.below hb15)
  have A2_15 := Lib.hid (A2_14.out.below hb15)
  clear hb15 M_14 C_14 A_14 M2_14 X2_14 L1_14 L2_14 M3_14 X3_14 Y3_14 C2_14 A2_14
  go_wp2_with fail
  refine (CI2.out _ _ M_15.out).mono ?_
  rintro e w16 ⟨rfl, hb16⟩
  have B16 := Lib.hid (B15.out.trans (hb16.mono B15.out.size))
  have S16 := Lib.hid hb16.size
  have M_16 := Lib.hid (M_15.out.below hb16)
  have C_16 := Lib.hid (C_15.out.below hb16)
  have A_16 := Lib.hid (A_15.out.below hb16)
  have M2_16 := Lib.hid (M2_15.out.below hb16)
  have X2_16 := Lib.hid (X2_15.out.below hb16)
  have L1_16 := Lib.hid (L1_15.out.below hb16)
  have L2_16 := Lib.hid (L2_15.out.below hb16)
  have M3_16 := Lib.hid (M3_15.out.below hb16)
  have X3_16 := Lib.hid (X3_15.out.below hb16)
  have Y3_16 := Lib.hid (Y3_15.out.below hb16)
  have C2_16 := Lib.hid (C2_15.out.below hb16)
  have A2_16 := Lib.hid (A2_15.out.below hb16)
  clear hb16 M_15 C_15 A_15 M2_15 X2_15 L1_15 L2_15 M3_15 X3_15 Y3_15 C2_15 A2_15
  have BV := Lib.hid B16.out
  cases ok with
  | false =>
    have BW := Lib.hid (Below.refl w16.heap.size w16)
    by_cases hA : AR = []
    · have z0 : ((AR.length : Int) == 0) = true := by rw [hA]; rfl
      go_wp2_with fail
      all_goals (first | (go_ret; exact ⟨rfl, BV.out.trans (BW.out.mono BV.out.size)⟩) | (exfalso; simp_all; done))
    · obtain ⟨g1, g2, FF, hF1, hF2⟩ := LA.out hA
      have g5 : AR.length ≤ 500 := by have := EAR.out; rw [← this]; exact leaders_few m
      have z0 : ((AR.length : Int) == 0) = false := by
        rw [beq_eq_false_iff_ne]; intro h; exact hA (List.length_eq_zero_iff.1 (by omega))
      have HF1 := Lib.hid hF1
      have HF2 := Lib.hid hF2
      rw [← g2] at g1 z0
      obtain ⟨N, hN⟩ : ∃ N, CR.length = N := ⟨_, rfl⟩
      rw [hN] at g1 g2 z0
      subst g1
      have HN := Lib.hid hN
      have CX := Lib.hid (show Rw w16 (.slice ca CR.length cc) CR from C_16.out)
      have AX := Lib.hid (show Rw w16 (.slice aa AR.length ac) AR from A_16.out)
      rw [hN] at CX ⊢
      rw [← g2] at AX ⊢
      rw [← g2] at g5
      have IDX := Lib.hid g5
      clear hF1 hF2 hA hN g2 g5
      go_wp2_with fail
      refine (CI1.out _ _ (M_16.out.below BW.out)).mono ?_
      rintro e r1 ⟨rfl, hbr1⟩
      have BR := Lib.hid (BW.out.trans (hbr1.mono BW.out.size))
      clear hbr1
      go_wp2_with fail
      have BS0 := Lib.hid (BR.out.trans ((below1 r1 (.cells #[] 27)).mono BR.out.size))
      have SE := Lib.hid (owr_empty (T := 27) (e := 3) (Nat.le_refl r1.heap.size))
      go_loopw [17, 18] (fun sv i wr => ∃ k : Nat, k ≤ N ∧ i = .int .i64 k ∧ OwR 27 3 r1.heap.size wr.heap.size wr sv ((CR.take k).map FF) ∧ r1.heap.size ≤ wr.heap.size ∧ Below w16.heap.size w16 wr) (fun _ i _ => N - (RowKit.intOf i).toNat)
      case atStart => exact ⟨0, Nat.zero_le _, rfl, SE.out, by simp, BS0.out⟩
      case round =>
        obtain ⟨k, hk, rfl, hse, hle, hbr⟩ := hrel
        have SEr := Lib.hid hse
        have LEr := Lib.hid hle
        have BRr := Lib.hid hbr
        obtain ⟨sa, sc, rfl, _, _⟩ := hse.rw.shape
        have lt0 : ((CR.take k).map FF).length = k := by rw [List.length_map, List.length_take, HN.out]; omega
        rw [lt0] at SEr ⊢
        clear hse hle hbr SE
        by_cases hlt : k < N
        · skip
          have hkl : k < CR.length := by have := HN.out; omega
          obtain ⟨b, off, r, el, hb2, hcell, hsr⟩ := CX.out.row k hkl rfl
          subst el
          rw [← BRr.out.cell (p := ⟨b, off + k, none⟩) hb2] at hcell
          have HR := Lib.hid hsr
          have F1 := Lib.hid (HF1.out _ (List.getElem_mem hkl))
          have HAS := Lib.hid (show decide (FF CR[k] ∈ (CR.take k).map FF) = false by
            rw [decide_eq_false_iff_not]
            intro h
            obtain ⟨q, hq, e⟩ := List.mem_map.1 h
            obtain ⟨j, hj, e2⟩ := List.mem_iff_getElem.1 hq
            rw [List.length_take] at hj
            rw [List.getElem_take] at e2
            subst e2
            have := HF2.out j k (by omega) hkl e
            omega)
          have HAL := Lib.hid (show decide (FF CR[k] ∈ AR) = true from decide_eq_true F1.out.2)
          have NXT := Lib.hid (show (CR.take (k + 1)).map FF = (CR.take k).map FF ++ [FF CR[k]] by rw [List.take_succ_eq_append_getElem hkl, List.map_append]; rfl)
          obtain ⟨y, ey⟩ : ∃ y, CR[k] = y := ⟨_, rfl⟩
          obtain ⟨z, ez⟩ : ∃ z, FF y = z := ⟨_, rfl⟩
          rw [ey] at HR F1 HAS HAL NXT
          rw [ez] at F1 HAS HAL NXT
          have i1 : (0 : Int) ≤ (k : Int) := by omega
          have i2 : (k : Int) < (N : Int) := by omega
          have HLT := Lib.hid hlt
          clear hsr ey ez hkl lt0 hk
          go_wp2_with fail
          refine (i_clead m y _ _ _ (M_16.out.below BRr.out) (HR.out.below BRr.out)).mono ?_
          rintro e s1 ⟨⟨_, rfl, hg⟩, hbs⟩
          rw [F1.out.1] at hg ⊢
          dsimp only at hg ⊢
          obtain ⟨ga9, gc9, rfl, _⟩ := hg.shape1
          rw [intVals_len] at hg ⊢
          have HG9 := Lib.hid hg
          have BR1 := Lib.hid (BRr.out.trans (hbs.mono BRr.out.size))
          have SE1 := Lib.hid (SEr.out.below hbs)
          have ZS1 := Lib.hid hbs.size
          clear hg hbs hcell
          go_wp2_with fail
          refine (has_list _ z _ _ _ SE1.out.rw HG9.out.sl).mono ?_
          rintro e s2 ⟨rfl, hbs⟩
          rw [HAS.out]
          have BR2 := Lib.hid (BR1.out.trans (hbs.mono BR1.out.size))
          have SE2 := Lib.hid (SE1.out.below hbs)
          have HG2 := Lib.hid (HG9.out.below hbs)
          have ZS2 := Lib.hid hbs.size
          clear hbs
          go_wp2_with fail
          refine (has_list AR z _ _ _ (AX.out.below BR2.out) HG2.out.sl).mono ?_
          rintro e s3 ⟨rfl, hbs⟩
          rw [HAL.out]
          have BR3 := Lib.hid (BR2.out.trans (hbs.mono BR2.out.size))
          have SE3 := Lib.hid (SE2.out.below hbs)
          have HG3 := Lib.hid (HG2.out.below hbs)
          have ZS3 := Lib.hid hbs.size
          clear hbs
          have hba := below1 s3 (.cells #[.slice ga9 z.length gc9] 27)
          have SE4 := Lib.hid (SE3.out.below hba)
          have HG4 := Lib.hid ((HG3.out.below hba).mono (lo' := wr.heap.size) (hi' := (s3.alloc (.cells #[.slice ga9 z.length gc9] 27)).heap.size) (Nat.le_refl _) (by have := ZS2.out; have := ZS3.out; have := hba.size; omega))
          have HNW := Lib.hid (heap_alloc_new s3 (.cells #[.slice ga9 z.length gc9] 27))
          have BR4 := Lib.hid (BR3.out.trans (hba.mono BR3.out.size))
          have ZS4 := Lib.hid (show wr.heap.size ≤ (s3.alloc (.cells #[.slice ga9 z.length gc9] 27)).heap.size by have := ZS1.out; have := ZS2.out; have := ZS3.out; have := hba.size; omega)
          have LK := Lib.hid (show ((CR.take k).map FF).length = k by rw [List.length_map, List.length_take, HN.out]; omega)
          clear hba
          have i3 := IDX.out
          have i4 := HLT.out
          go_wp2_with (at_builtin; refine list_app_row rfl _ _ rfl r1.heap.size wr.heap.size _ _ ((CR.take k).map FF) z rfl SE4.out HG4.out s3.heap.size rfl HNW.out (by rw [LK.out]; have := IDX.out; omega) LEr.out ZS4.out ?_; intro g7 cap7 w7 ho7 hk7; rw [LK.out] at ho7 ⊢; have HO7 := Lib.hid ho7; have HK7 := Lib.hid hk7; clear ho7 hk7)
          exact ⟨⟨k + 1, by have := HLT.out; omega, by go_num, by rw [NXT.out]; exact HO7.out, Nat.le_trans LEr.out (Nat.le_trans ZS4.out HK7.out.size), BR4.out.trans (HK7.out.mono (by have := BR.out.size; omega))⟩, by have := HLT.out; simp [RowKit.intOf]; omega⟩
        · obtain rfl : k = N := by omega
          clear lt0
          go_wp2_with fail
          go_ret
          exact ⟨rfl, BV.out.trans (BRr.out.mono BV.out.size)⟩
  | true =>
    have LG := Lib.hid (lead_again ELR.out)
    go_wp2_with fail
    refine (i_clead m2 LL _ _ _ M2_16.out L1_16.out).mono ?_
    rintro e q1 ⟨⟨_, rfl, hg⟩, hbq⟩
    rw [LG.out.1] at hg ⊢
    dsimp only at hg ⊢
    obtain ⟨ga, gc, rfl, _⟩ := hg.shape1
    rw [intVals_len] at hg ⊢
    have HG1 := Lib.hid hg.sl
    have BW1 := Lib.hid hbq
    clear hg hbq
    go_wp2_with fail
    refine (same_int LL _ _ _ HG1.out (L1_16.out.below BW1.out)).mono ?_
    rintro e q2 ⟨rfl, hbq⟩
    have BW2 := Lib.hid (BW1.out.trans (hbq.mono BW1.out.size))
    clear hbq
    go_wp2_with fail
    refine (i_same8 m2 x2 LL _ _ _ _ (M2_16.out.below BW2.out) (X2_16.out.below BW2.out) (L1_16.out.below BW2.out)).mono ?_
    rintro e q3 ⟨rfl, hbq⟩
    rw [LG.out.2]
    have BW3 := Lib.hid (BW2.out.trans (hbq.mono BW2.out.size))
    clear hbq
    skip
    by_cases hA : AR = []
    · have z0 : ((AR.length : Int) == 0) = true := by rw [hA]; rfl
      go_wp2_with fail
      all_goals (first | (go_ret; exact ⟨rfl, BV.out.trans (BW3.out.mono BV.out.size)⟩) | (exfalso; simp_all; done))
    · obtain ⟨g1, g2, FF, hF1, hF2⟩ := LA.out hA
      have g5 : AR.length ≤ 500 := by have := EAR.out; rw [← this]; exact leaders_few m
      have z0 : ((AR.length : Int) == 0) = false := by
        rw [beq_eq_false_iff_ne]; intro h; exact hA (List.length_eq_zero_iff.1 (by omega))
      have HF1 := Lib.hid hF1
      have HF2 := Lib.hid hF2
      rw [← g2] at g1 z0
      obtain ⟨N, hN⟩ : ∃ N, CR.length = N := ⟨_, rfl⟩
      rw [hN] at g1 g2 z0
      subst g1
      have HN := Lib.hid hN
      have CX := Lib.hid (show Rw w16 (.slice ca CR.length cc) CR from C_16.out)
      have AX := Lib.hid (show Rw w16 (.slice aa AR.length ac) AR from A_16.out)
      rw [hN] at CX ⊢
      rw [← g2] at AX ⊢
      rw [← g2] at g5
      have IDX := Lib.hid g5
      clear hF1 hF2 hA hN g2 g5
      go_wp2_with fail
      refine (CI1.out _ _ (M_16.out.below BW3.out)).mono ?_
      rintro e r1 ⟨rfl, hbr1⟩
      have BR := Lib.hid (BW3.out.trans (hbr1.mono BW3.out.size))
      clear hbr1
      go_wp2_with fail
      have BS0 := Lib.hid (BR.out.trans ((below1 r1 (.cells #[] 27)).mono BR.out.size))
      have SE := Lib.hid (owr_empty (T := 27) (e := 3) (Nat.le_refl r1.heap.size))
      go_loopw [17, 18] (fun sv i wr => ∃ k : Nat, k ≤ N ∧ i = .int .i64 k ∧ OwR 27 3 r1.heap.size wr.heap.size wr sv ((CR.take k).map FF) ∧ r1.heap.size ≤ wr.heap.size ∧ Below w16.heap.size w16 wr) (fun _ i _ => N - (RowKit.intOf i).toNat)
      case atStart => exact ⟨0, Nat.zero_le _, rfl, SE.out, by simp, BS0.out⟩
      case round =>
        obtain ⟨k, hk, rfl, hse, hle, hbr⟩ := hrel
        have SEr := Lib.hid hse
        have LEr := Lib.hid hle
        have BRr := Lib.hid hbr
        obtain ⟨sa, sc, rfl, _, _⟩ := hse.rw.shape
        have lt0 : ((CR.take k).map FF).length = k := by rw [List.length_map, List.length_take, HN.out]; omega
        rw [lt0] at SEr ⊢
        clear hse hle hbr SE
        by_cases hlt : k < N
        · skip
          have hkl : k < CR.length := by have := HN.out; omega
          obtain ⟨b, off, r, el, hb2, hcell, hsr⟩ := CX.out.row k hkl rfl
          subst el
          rw [← BRr.out.cell (p := ⟨b, off + k, none⟩) hb2] at hcell
          have HR := Lib.hid hsr
          have F1 := Lib.hid (HF1.out _ (List.getElem_mem hkl))
          have HAS := Lib.hid (show decide (FF CR[k] ∈ (CR.take k).map FF) = false by
            rw [decide_eq_false_iff_not]
            intro h
            obtain ⟨q, hq, e⟩ := List.mem_map.1 h
            obtain ⟨j, hj, e2⟩ := List.mem_iff_getElem.1 hq
            rw [List.length_take] at hj
            rw [List.getElem_take] at e2
            subst e2
            have := HF2.out j k (by omega) hkl e
            omega)
          have HAL := Lib.hid (show decide (FF CR[k] ∈ AR) = true from decide_eq_true F1.out.2)
          have NXT := Lib.hid (show (CR.take (k + 1)).map FF = (CR.take k).map FF ++ [FF CR[k]] by rw [List.take_succ_eq_append_getElem hkl, List.map_append]; rfl)
          obtain ⟨y, ey⟩ : ∃ y, CR[k] = y := ⟨_, rfl⟩
          obtain ⟨z, ez⟩ : ∃ z, FF y = z := ⟨_, rfl⟩
          rw [ey] at HR F1 HAS HAL NXT
          rw [ez] at F1 HAS HAL NXT
          have i1 : (0 : Int) ≤ (k : Int) := by omega
          have i2 : (k : Int) < (N : Int) := by omega
          have HLT := Lib.hid hlt
          clear hsr ey ez hkl lt0 hk
          go_wp2_with fail
          refine (i_clead m y _ _ _ (M_16.out.below BRr.out) (HR.out.below BRr.out)).mono ?_
          rintro e s1 ⟨⟨_, rfl, hg⟩, hbs⟩
          rw [F1.out.1] at hg ⊢
          dsimp only at hg ⊢
          obtain ⟨ga9, gc9, rfl, _⟩ := hg.shape1
          rw [intVals_len] at hg ⊢
          have HG9 := Lib.hid hg
          have BR1 := Lib.hid (BRr.out.trans (hbs.mono BRr.out.size))
          have SE1 := Lib.hid (SEr.out.below hbs)
          have ZS1 := Lib.hid hbs.size
          clear hg hbs hcell
          go_wp2_with fail
          refine (has_list _ z _ _ _ SE1.out.rw HG9.out.sl).mono ?_
          rintro e s2 ⟨rfl, hbs⟩
          rw [HAS.out]
          have BR2 := Lib.hid (BR1.out.trans (hbs.mono BR1.out.size))
          have SE2 := Lib.hid (SE1.out.below hbs)
          have HG2 := Lib.hid (HG9.out.below hbs)
          have ZS2 := Lib.hid hbs.size
          clear hbs
          go_wp2_with fail
          refine (has_list AR z _ _ _ (AX.out.below BR2.out) HG2.out.sl).mono ?_
          rintro e s3 ⟨rfl, hbs⟩
          rw [HAL.out]
          have BR3 := Lib.hid (BR2.out.trans (hbs.mono BR2.out.size))
          have SE3 := Lib.hid (SE2.out.below hbs)
          have HG3 := Lib.hid (HG2.out.below hbs)
          have ZS3 := Lib.hid hbs.size
          clear hbs
          have hba := below1 s3 (.cells #[.slice ga9 z.length gc9] 27)
          have SE4 := Lib.hid (SE3.out.below hba)
          have HG4 := Lib.hid ((HG3.out.below hba).mono (lo' := wr.heap.size) (hi' := (s3.alloc (.cells #[.slice ga9 z.length gc9] 27)).heap.size) (Nat.le_refl _) (by have := ZS2.out; have := ZS3.out; have := hba.size; omega))
          have HNW := Lib.hid (heap_alloc_new s3 (.cells #[.slice ga9 z.length gc9] 27))
          have BR4 := Lib.hid (BR3.out.trans (hba.mono BR3.out.size))
          have ZS4 := Lib.hid (show wr.heap.size ≤ (s3.alloc (.cells #[.slice ga9 z.length gc9] 27)).heap.size by have := ZS1.out; have := ZS2.out; have := ZS3.out; have := hba.size; omega)
          have LK := Lib.hid (show ((CR.take k).map FF).length = k by rw [List.length_map, List.length_take, HN.out]; omega)
          clear hba
          have i3 := IDX.out
          have i4 := HLT.out
          go_wp2_with (at_builtin; refine list_app_row rfl _ _ rfl r1.heap.size wr.heap.size _ _ ((CR.take k).map FF) z rfl SE4.out HG4.out s3.heap.size rfl HNW.out (by rw [LK.out]; have := IDX.out; omega) LEr.out ZS4.out ?_; intro g7 cap7 w7 ho7 hk7; rw [LK.out] at ho7 ⊢; have HO7 := Lib.hid ho7; have HK7 := Lib.hid hk7; clear ho7 hk7)
          exact ⟨⟨k + 1, by have := HLT.out; omega, by go_num, by rw [NXT.out]; exact HO7.out, Nat.le_trans LEr.out (Nat.le_trans ZS4.out HK7.out.size), BR4.out.trans (HK7.out.mono (by have := BR.out.size; omega))⟩, by have := HLT.out; simp [RowKit.intOf]; omega⟩
        · obtain rfl : k = N := by omega
          clear lt0
          go_wp2_with fail
          go_ret
          exact ⟨rfl, BV.out.trans (BRr.out.mono BV.out.size)⟩

theorem walk (l : List Int) (a : Option Addr) (n c : Nat) (w : World) (hlen : l.length = n) (hs : Sl w (.slice a n c) (numVals .u8 l)) (hz : ∀ z ∈ l, (Lit.int .u8 z).wf = true) :
    Calls Tryz.prog 3 #[.slice a n c] w fun e w' => e = .returned (.bool true) ∧ Below w.heap.size w w' := by
  by_cases hl : n ≤ 1048576
  · have hc := code_in hlen hs hz hl
    subst hlen
    exact walk_small a c l w hc
  · exact walk_big a n c (by omega) w

theorem own : ownKnob Tryz.prog.godebug = none := by kernel_rfl
theorem laidOut : laidOutB Tryz.prog = true := by kernel_rfl


set_option maxRecDepth 100000 in
set_option linter.unusedVariables false in
theorem contract (H : Type) (enc : TypeId × Value → H) (W : World) (base : Nat) (args : Array Value) (ds gs : List (DataW H)) (before : List MemPlace)
    (hval : ∀ (j : Nat) t v, Tryz.f3.params[j]? = some t → args[j]? = some v → Value.okWide Tryz.prog W .any base t v)
    (hW : DataW.Whole enc Tryz.prog Tryz.f3.params.toList Rows.fnLatticesSpec.vars false W args.toList ds gs before) :
    Calls Tryz.prog 3 args W fun e W' => ∃ v, e = .returned v ∧ Rows.fnLatticesSpec.post enc Tryz.prog Tryz.f3 false true false false W args v W' := by
  have hW' := hW
  obtain ⟨p, q, hA0, hV, rfl, hfz, hnd⟩ := hW
  have hA : DataW.TrodAll enc Tryz.prog W 0 (fun _ => true) true Tryz.f3.params.toList args.toList ds p := hA0
  rw [Tryz.params3] at hA hval
  obtain ⟨v0, vs0, d0, ds0, p0, q0, hargs, rfl, rfl, h0, r0⟩ := trodAll_cons hA
  obtain ⟨rfl, rfl, rfl⟩ := trodAll_nil r0
  obtain rfl : args = #[v0] := by cases args; simp_all
  obtain ⟨lA, lL, lC, rfl⟩ := okWide_slice Tryz.underlying22 (hval 0 22 v0 rfl rfl)
  obtain ⟨l, wl⟩ : ∃ zs : List Int, zs.length = lL ∧ Sl W (.slice lA lL lC) (numVals .u8 zs) ∧ ∀ z ∈ zs, (Lit.int .u8 z).wf = true := by
    obtain ⟨fuel, hf⟩ := h0
    exact nums_came Tryz.underlying22 Tryz.underlying5 (by kernel_rfl) hf
  refine (walk l _ _ _ W wl.1 wl.2.1 wl.2.2).mono fun e W' ⟨he, hb⟩ => ?_
  subst he
  exact ⟨_, rfl, law_post laidOut (by kernel_rfl) rfl Tryz.underlying4 rfl hW' (fun ds' h => by match ds', h with | [d0], _ => rfl) hb⟩


set_option maxRecDepth 100000 in
theorem lifted (os : Os) (started : os.Started) (H : Type) (enc : TypeId × Value → H) :
    ReturnsInHanded {} Tryz.checked os 3 .any (Rows.fnLatticesSpec.pre6 enc Tryz.prog Tryz.f3 Rows.fnLatticesRow.domain false) (Rows.fnLatticesSpec.post enc Tryz.prog Tryz.f3 false true false false) := by
  refine returnsInHanded_of_change (C := Tryz.checked) own started (by kernel_rfl) Tryz.func3
    (ChangeSpec.witness6 (enc := enc) (C := Tryz.checked) false ⟨#[], #[.slice none 0 0], []⟩ 8 (by kernel_rfl) (by kernel_rfl) (by kernel_rfl) (by kernel_rfl)) ?_
  intro W base args ds gs before hval hW _ _
  exact contract H enc W base args ds gs before hval hW

theorem said : Rows.FnLatticesSaid :=
  OpenClaim.holds_of_wide 3 Tryz.f3 rfl rfl rfl rfl rfl rfl rfl ⟨rfl, rfl, rfl, rfl, rfl⟩ rfl rfl rfl rfl rfl (by kernel_rfl) Tryz.func3 (by kernel_rfl)
    (of_decide_eq_true (by kernel_rfl)) (by unfold Func.isWrapper; first | (rw [if_pos (by decide +kernel)]; kernel_rfl) | (rw [if_neg (by decide +kernel)]; exact ⟨rfl, rfl⟩))
    (fun os started H enc _ => lifted os started H enc)
end Go.Proofs.YtjijgagdaolkcaaGreat.fnLattices
