/- FnCones holds for every input. Conditions: none. -/
import Derived.Test.YtjijgagdaolkcaaDrawCn
import Derived.Test.YtjijgagdaolkcaaMay
import Derived.Test.YtjijgagdaolkcaaCode
import Derived.Test.YtjijgagdaolkcaaLaw
import Derived.Test.YtjijgagdaolkcaaRows
namespace Go.Proofs.Ytjijgagdaolkcaa.fnCones
open Go.ChangeShapes Go.WideShapes Go.ChangeAt Go.RowKit Go.Lib
open Go.ChangeMaps (open_string shut_string)
set_option maxRecDepth 100000 in
set_option maxHeartbeats 400000 in
theorem walk_big (a : Option Addr) (n c : Nat) (hl : 1048576 < n) (w : World) :
    Calls Try.prog 3 #[.slice a n c] w fun e w' => e = .returned (.bool true) ∧ Below w.heap.size w w' := by
  have hd : decide ((1048576 : Int) < n) = true := by simp; omega
  go_enter Try.func3, Try.ntmps3
  go_wp2_with fail
  refine (big_any a n c _).mono ?_
  rintro e w1 ⟨rfl, rfl⟩
  rw [hd]
  go_wp2_with fail
  go_ret
  exact ⟨rfl, Below.refl _ _⟩
set_option linter.unusedVariables false in
set_option maxRecDepth 100000 in
set_option maxHeartbeats 12800000 in
theorem walk_small (a : Option Addr) (c : Nat) (zs : List Int) (w : World) (hc : CodeIn w a zs) :
    Calls Try.prog 3 #[.slice a zs.length c] w fun e w' => e = .returned (.bool true) ∧ Below w.heap.size w w' := by
  have hd : decide ((1048576 : Int) < zs.length) = false := by have := hc.1; simp; omega
  have HC := Lib.hid hc
  have HD := Lib.hid hd
  clear hc hd
  have B0 := Lib.hid (Below.refl w.heap.size w)
  go_enter Try.func3, Try.ntmps3
  go_wp2_with fail
  refine (big_any a zs.length c _).mono ?_
  rintro e w1 ⟨rfl, rfl⟩
  rw [HD.out]
  go_wp2_with fail
  refine (d_splitcone a c zs w _ B0.out HC.out).mono ?_
  rintro e w1 ⟨k, ⟨_, rfl, cu, ct, rfl, hoc⟩, hb1⟩
  obtain ⟨ua, uc, ta, tc, rfl, rfl⟩ := hoc.shape
  have B1 := Lib.hid (B0.out.trans (hb1.mono B0.out.size))
  have S1 := Lib.hid hb1.size
  have CU_1 := Lib.hid hoc.1.sl
  have CV_1 := Lib.hid hoc.2.1.sl
  have C_1 := Lib.hid hoc.cv
  clear hb1   hoc
  have CS1 := Lib.hid (fun v W (h : Cv W v k) => i_split k v W h)
  have CS2 := Lib.hid (fun v W (h : Cv W v k) => s_split k v W h)
  obtain ⟨RL, eRL⟩ : ∃ q, splitR k = q := ⟨_, rfl⟩
  rw [eRL] at CS1 CS2
  have ERL := Lib.hid eRL
  clear eRL
  have CT1 := Lib.hid (fun v W (h : Cv W v k) => i_cturns k v W h)
  have CT2 := Lib.hid (fun v W (h : Cv W v k) => s_cturns k v W h)
  obtain ⟨RT, eRT⟩ : ∃ q, cturnsR k = q := ⟨_, rfl⟩
  rw [eRT] at CT1 CT2
  have ERT := Lib.hid eRT
  clear eRT
  have CI1 := Lib.hid (fun v W (h : Cv W v k) => i_cindex k v W h)
  have CI2 := Lib.hid (fun v W (h : Cv W v k) => s_cindex k v W h)
  obtain ⟨qi, eqi⟩ : ∃ q, cindexR k = q := ⟨_, rfl⟩
  rw [eqi] at CI1 CI2
  have Eqi := Lib.hid eqi
  clear eqi
  have CK1 := Lib.hid (fun v W (h : Cv W v k) => i_cone k v W h)
  have CK2 := Lib.hid (fun v W (h : Cv W v k) => s_cone k v W h)
  obtain ⟨qc, eqc⟩ : ∃ q, coneR k = q := ⟨_, rfl⟩
  rw [eqc] at CK1 CK2
  have Eqc := Lib.hid eqc
  clear eqc
  have hb2 := below1 w1 (.cells #[.slice ua k.1.length uc, .slice ta k.2.length tc] 26)
  have B2 := Lib.hid (B1.out.trans (hb2.mono B1.out.size))
  have S2 := Lib.hid (alloc_lt w1 (.cells #[.slice ua k.1.length uc, .slice ta k.2.length tc] 26))
  have CU_2 := Lib.hid (CU_1.out.below hb2)
  have CV_2 := Lib.hid (CV_1.out.below hb2)
  have C_2 := Lib.hid (C_1.out.below hb2)
  have P3_2 := Lib.hid (Bk.new w1 #[.slice ua k.1.length uc, .slice ta k.2.length tc] 26)
  clear hb2 CU_1 CV_1 C_1
  obtain ⟨⟨lP30, lP31⟩, -⟩ := P3_2.out.two
  go_wp2_with fail
  refine (CS1.out _ _ C_2.out).mono ?_
  rintro e w3 ⟨⟨lv, rfl, hl⟩, hb3⟩
  obtain ⟨la, lc, rfl, hlm, _⟩ := hl.rw.shape
  unfold maxLen at hlm
  clear lP30 lP31
  have B3 := Lib.hid (B2.out.trans (hb3.mono B2.out.size))
  have S3 := Lib.hid hb3.size
  have CU_3 := Lib.hid (CU_2.out.below hb3)
  have CV_3 := Lib.hid (CV_2.out.below hb3)
  have C_3 := Lib.hid (C_2.out.below hb3)
  have P3_3 := Lib.hid (P3_2.out.below hb3)
  have L_3 := Lib.hid hl.rw
  clear hb3 CU_2 CV_2 C_2 P3_2 hl
  obtain ⟨⟨lP30, lP31⟩, -⟩ := P3_3.out.two
  go_wp2_with fail
  refine (CT1.out _ _ C_3.out).mono ?_
  rintro e w4 ⟨⟨tv, rfl, ht⟩, hb4⟩
  obtain ⟨tb, td, rfl, htm⟩ := ht.shape1
  rw [intVals_len] at ht htm ⊢
  unfold maxLen at htm
  clear lP30 lP31
  have B4 := Lib.hid (B3.out.trans (hb4.mono B3.out.size))
  have S4 := Lib.hid hb4.size
  have CU_4 := Lib.hid (CU_3.out.below hb4)
  have CV_4 := Lib.hid (CV_3.out.below hb4)
  have C_4 := Lib.hid (C_3.out.below hb4)
  have P3_4 := Lib.hid (P3_3.out.below hb4)
  have L_4 := Lib.hid (L_3.out.below hb4)
  have T_4 := Lib.hid ht.sl
  clear hb4 CU_3 CV_3 C_3 P3_3 L_3 ht
  go_wp2_with fail
  refine (d_incone a c zs w _ B4.out HC.out).mono ?_
  rintro e w5 ⟨⟨k2, x2, u2, t2, v2, rfl, ho2, hx2⟩, hb5⟩
  obtain ⟨u2a, u2c, t2a, t2c, rfl, rfl⟩ := ho2.shape
  obtain ⟨xa, xc, rfl, _⟩ := hx2.shape1
  rw [intVals_len] at hx2 ⊢
  have B5 := Lib.hid (B4.out.trans (hb5.mono B4.out.size))
  have S5 := Lib.hid hb5.size
  have CU_5 := Lib.hid (CU_4.out.below hb5)
  have CV_5 := Lib.hid (CV_4.out.below hb5)
  have C_5 := Lib.hid (C_4.out.below hb5)
  have P3_5 := Lib.hid (P3_4.out.below hb5)
  have L_5 := Lib.hid (L_4.out.below hb5)
  have T_5 := Lib.hid (T_4.out.below hb5)
  have C2_5 := Lib.hid ho2.cv
  have X2_5 := Lib.hid hx2.sl
  clear hb5 CU_4 CV_4 C_4 P3_4 L_4 T_4 ho2 hx2
  have CN1 := Lib.hid (fun v b W (h : Cv W v k2) (h2 : Sl W b (intVals x2)) => i_incone k2 x2 v b W h h2)
  have CN2 := Lib.hid (fun v b W (h : Cv W v k2) (h2 : Sl W b (intVals x2)) => s_incone k2 x2 v b W h h2)
  obtain ⟨qn, eqn⟩ : ∃ q, inconeR k2 x2 = q := ⟨_, rfl⟩
  rw [eqn] at CN1 CN2
  have Eqn := Lib.hid eqn
  clear eqn
  have hb6 := below1 w5 (.cells #[.slice u2a k2.1.length u2c, .slice t2a k2.2.length t2c] 26)
  have B6 := Lib.hid (B5.out.trans (hb6.mono B5.out.size))
  have S6 := Lib.hid (alloc_lt w5 (.cells #[.slice u2a k2.1.length u2c, .slice t2a k2.2.length t2c] 26))
  have CU_6 := Lib.hid (CU_5.out.below hb6)
  have CV_6 := Lib.hid (CV_5.out.below hb6)
  have C_6 := Lib.hid (C_5.out.below hb6)
  have P3_6 := Lib.hid (P3_5.out.below hb6)
  have L_6 := Lib.hid (L_5.out.below hb6)
  have T_6 := Lib.hid (T_5.out.below hb6)
  have C2_6 := Lib.hid (C2_5.out.below hb6)
  have X2_6 := Lib.hid (X2_5.out.below hb6)
  have P6_6 := Lib.hid (Bk.new w5 #[.slice u2a k2.1.length u2c, .slice t2a k2.2.length t2c] 26)
  clear hb6 CU_5 CV_5 C_5 P3_5 L_5 T_5 C2_5 X2_5
  go_wp2_with fail
  refine (d_conet a c zs w _ B6.out HC.out).mono ?_
  rintro e w7 ⟨⟨yv, ys, rfl, hy⟩, hb7⟩
  obtain ⟨ya, yc, rfl, _⟩ := hy.shape1
  rw [intVals_len] at hy ⊢
  have B7 := Lib.hid (B6.out.trans (hb7.mono B6.out.size))
  have S7 := Lib.hid hb7.size
  have CU_7 := Lib.hid (CU_6.out.below hb7)
  have CV_7 := Lib.hid (CV_6.out.below hb7)
  have C_7 := Lib.hid (C_6.out.below hb7)
  have P3_7 := Lib.hid (P3_6.out.below hb7)
  have L_7 := Lib.hid (L_6.out.below hb7)
  have T_7 := Lib.hid (T_6.out.below hb7)
  have C2_7 := Lib.hid (C2_6.out.below hb7)
  have X2_7 := Lib.hid (X2_6.out.below hb7)
  have P6_7 := Lib.hid (P6_6.out.below hb7)
  have Y_7 := Lib.hid hy.sl
  clear hb7 CU_6 CV_6 C_6 P3_6 L_6 T_6 C2_6 X2_6 P6_6 hy
  have LB := Lib.hid (law_back (l := ys))
  have CD1 := Lib.hid (fun v W (h : Sl W v (intVals ys)) => i_conet ys v W h)
  have CD2 := Lib.hid (fun v W (h : Sl W v (intVals ys)) => s_conet ys v W h)
  obtain ⟨RD, eRD⟩ : ∃ q, coneTR ys = q := ⟨_, rfl⟩
  rw [eRD] at CD1 CD2
  have ERD := Lib.hid eRD
  clear eRD
  rw [ERD.out] at LB
  clear ERD
  obtain ⟨DC, ok⟩ := RD
  go_wp2_with fail
  refine (CD1.out _ _ Y_7.out).mono ?_
  rintro e w8 ⟨⟨_, rfl, du, dt, rfl, hd⟩, hb8⟩
  dsimp only at hd ⊢
  obtain ⟨da, dc, db, dd, rfl, rfl⟩ := hd.shape
  have B8 := Lib.hid (B7.out.trans (hb8.mono B7.out.size))
  have S8 := Lib.hid hb8.size
  have CU_8 := Lib.hid (CU_7.out.below hb8)
  have CV_8 := Lib.hid (CV_7.out.below hb8)
  have C_8 := Lib.hid (C_7.out.below hb8)
  have P3_8 := Lib.hid (P3_7.out.below hb8)
  have L_8 := Lib.hid (L_7.out.below hb8)
  have T_8 := Lib.hid (T_7.out.below hb8)
  have C2_8 := Lib.hid (C2_7.out.below hb8)
  have X2_8 := Lib.hid (X2_7.out.below hb8)
  have P6_8 := Lib.hid (P6_7.out.below hb8)
  have Y_8 := Lib.hid (Y_7.out.below hb8)
  have D_8 := Lib.hid hd.cv
  clear hb8 CU_7 CV_7 C_7 P3_7 L_7 T_7 C2_7 X2_7 P6_7 Y_7 hd
  have hb9 := below1 w8 (.cells #[.slice da DC.1.length dc, .slice db DC.2.length dd] 26)
  have B9 := Lib.hid (B8.out.trans (hb9.mono B8.out.size))
  have S9 := Lib.hid (alloc_lt w8 (.cells #[.slice da DC.1.length dc, .slice db DC.2.length dd] 26))
  have CU_9 := Lib.hid (CU_8.out.below hb9)
  have CV_9 := Lib.hid (CV_8.out.below hb9)
  have C_9 := Lib.hid (C_8.out.below hb9)
  have P3_9 := Lib.hid (P3_8.out.below hb9)
  have L_9 := Lib.hid (L_8.out.below hb9)
  have T_9 := Lib.hid (T_8.out.below hb9)
  have C2_9 := Lib.hid (C2_8.out.below hb9)
  have X2_9 := Lib.hid (X2_8.out.below hb9)
  have P6_9 := Lib.hid (P6_8.out.below hb9)
  have Y_9 := Lib.hid (Y_8.out.below hb9)
  have D_9 := Lib.hid (D_8.out.below hb9)
  have P9_9 := Lib.hid (Bk.new w8 #[.slice da DC.1.length dc, .slice db DC.2.length dd] 26)
  clear hb9 CU_8 CV_8 C_8 P3_8 L_8 T_8 C2_8 X2_8 P6_8 Y_8 D_8
  go_wp2_with fail
  refine (CD2.out _ _ Y_9.out).mono ?_
  rintro e w10 ⟨⟨_, rfl, gu, gt, rfl, hd⟩, hb10⟩
  dsimp only at hd ⊢
  obtain ⟨ga, gc, gb, gd, rfl, rfl⟩ := hd.shape
  have B10 := Lib.hid (B9.out.trans (hb10.mono B9.out.size))
  have S10 := Lib.hid hb10.size
  have CU_10 := Lib.hid (CU_9.out.below hb10)
  have CV_10 := Lib.hid (CV_9.out.below hb10)
  have C_10 := Lib.hid (C_9.out.below hb10)
  have P3_10 := Lib.hid (P3_9.out.below hb10)
  have L_10 := Lib.hid (L_9.out.below hb10)
  have T_10 := Lib.hid (T_9.out.below hb10)
  have C2_10 := Lib.hid (C2_9.out.below hb10)
  have X2_10 := Lib.hid (X2_9.out.below hb10)
  have P6_10 := Lib.hid (P6_9.out.below hb10)
  have Y_10 := Lib.hid (Y_9.out.below hb10)
  have D_10 := Lib.hid (D_9.out.below hb10)
  have P9_10 := Lib.hid (P9_9.out.below hb10)
  have G_10 := Lib.hid hd.cv
  clear hb10 CU_9 CV_9 C_9 P3_9 L_9 T_9 C2_9 X2_9 P6_9 Y_9 D_9 P9_9 hd
  have hb11 := below1 w10 (.cells #[.slice ga DC.1.length gc, .slice gb DC.2.length gd] 26)
  have B11 := Lib.hid (B10.out.trans (hb11.mono B10.out.size))
  have S11 := Lib.hid (alloc_lt w10 (.cells #[.slice ga DC.1.length gc, .slice gb DC.2.length gd] 26))
  have CU_11 := Lib.hid (CU_10.out.below hb11)
  have CV_11 := Lib.hid (CV_10.out.below hb11)
  have C_11 := Lib.hid (C_10.out.below hb11)
  have P3_11 := Lib.hid (P3_10.out.below hb11)
  have L_11 := Lib.hid (L_10.out.below hb11)
  have T_11 := Lib.hid (T_10.out.below hb11)
  have C2_11 := Lib.hid (C2_10.out.below hb11)
  have X2_11 := Lib.hid (X2_10.out.below hb11)
  have P6_11 := Lib.hid (P6_10.out.below hb11)
  have Y_11 := Lib.hid (Y_10.out.below hb11)
  have D_11 := Lib.hid (D_10.out.below hb11)
  have P9_11 := Lib.hid (P9_10.out.below hb11)
  have G_11 := Lib.hid (G_10.out.below hb11)
  have P11_11 := Lib.hid (Bk.new w10 #[.slice ga DC.1.length gc, .slice gb DC.2.length gd] 26)
  clear hb11 CU_10 CV_10 C_10 P3_10 L_10 T_10 C2_10 X2_10 P6_10 Y_10 D_10 P9_10 G_10
  try dsimp only at LB
  go_wp2_with fail
  obtain ⟨V, hV⟩ : ∃ V, (w10.alloc (.cells #[.slice ga DC.1.length gc, .slice gb DC.2.length gd] 26)) = V := ⟨_, rfl⟩
  rw [hV] at CU_11 CV_11 C_11 P3_11 L_11 T_11 C2_11 X2_11 P6_11 Y_11 D_11 P9_11 G_11 P11_11 B11 ⊢
  have BV := Lib.hid B11.out
  refine T_begin (z := fun k => 45 < k) (S := fun (w' : World) => Bk w' (w1.heap.size) #[.slice ua k.1.length uc, .slice ta k.2.length tc] 26 ∧ Bk w' (w5.heap.size) #[.slice u2a k2.1.length u2c, .slice t2a k2.2.length t2c] 26 ∧ Bk w' (w8.heap.size) #[.slice da DC.1.length dc, .slice db DC.2.length dd] 26 ∧ Bk w' (w10.heap.size) #[.slice ga DC.1.length gc, .slice gb DC.2.length gd] 26 ∧ Below V.heap.size V w') (by kernel_rfl) ?_
  show wpAnyT _ _ _ _ _ _ 46 _ _ _
  have hS0 := Lib.hid (show (fun (w' : World) => Bk w' (w1.heap.size) #[.slice ua k.1.length uc, .slice ta k.2.length tc] 26 ∧ Bk w' (w5.heap.size) #[.slice u2a k2.1.length u2c, .slice t2a k2.2.length t2c] 26 ∧ Bk w' (w8.heap.size) #[.slice da DC.1.length dc, .slice db DC.2.length dd] 26 ∧ Bk w' (w10.heap.size) #[.slice ga DC.1.length gc, .slice gb DC.2.length gd] 26 ∧ Below V.heap.size V w') (V.drew) from ⟨P3_11.out, P6_11.out, P9_11.out, P11_11.out, (Below.refl _ _).drew⟩)
  refine T_take (i := 0) (v := .slice la RL.length lc) rfl (by kernel_rfl) (by kernel_rfl) (by kernel_rfl) (by kernel_rfl) (fun _ _ _ h => h) hS0.out (by kernel_rfl) (fun w' hS' => by obtain ⟨⟨h0, h1⟩, -⟩ := hS'.1.two; obtain ⟨⟨h2, h3⟩, -⟩ := hS'.2.1.two; obtain ⟨⟨h4, h5⟩, -⟩ := hS'.2.2.1.two; obtain ⟨⟨h6, h7⟩, -⟩ := hS'.2.2.2.1.two; go_simp) ?_
  refine T_take (i := 1) (v := .agg #[.slice ua k.1.length uc, .slice ta k.2.length tc]) rfl (by kernel_rfl) (by kernel_rfl) (by kernel_rfl) (by kernel_rfl) (fun _ _ _ h => h) hS0.out (by kernel_rfl) (fun w' hS' => by obtain ⟨⟨h0, h1⟩, -⟩ := hS'.1.two; obtain ⟨⟨h2, h3⟩, -⟩ := hS'.2.1.two; obtain ⟨⟨h4, h5⟩, -⟩ := hS'.2.2.1.two; obtain ⟨⟨h6, h7⟩, -⟩ := hS'.2.2.2.1.two; go_simp) ?_
  refine T_step (i := 2) rfl (by kernel_rfl) rfl (by kernel_rfl) ?_
  intro K hK
  go_simp
  refine (CS2.out _ _ (C_11.out.below hS0.out.2.2.2.2)).mono ?_
  rintro e' wT1 ⟨⟨lv2, rfl, hl2⟩, hb1⟩
  obtain ⟨l2a, l2c, rfl, _, _⟩ := hl2.rw.shape
  have HL2 := Lib.hid hl2.rw
  clear hl2
  have hS1 := Lib.hid (show (fun (w' : World) => Bk w' (w1.heap.size) #[.slice ua k.1.length uc, .slice ta k.2.length tc] 26 ∧ Bk w' (w5.heap.size) #[.slice u2a k2.1.length u2c, .slice t2a k2.2.length t2c] 26 ∧ Bk w' (w8.heap.size) #[.slice da DC.1.length dc, .slice db DC.2.length dd] 26 ∧ Bk w' (w10.heap.size) #[.slice ga DC.1.length gc, .slice gb DC.2.length gd] 26 ∧ Below V.heap.size V w') wT1 from ⟨hS0.out.1.below hb1, hS0.out.2.1.below hb1, hS0.out.2.2.1.below hb1, hS0.out.2.2.2.1.below hb1, hS0.out.2.2.2.2.trans (hb1.mono hS0.out.2.2.2.2.size)⟩)
  refine hK.out _ _ hS1.out ?_
  clear hK K
  refine T_step (i := 3) rfl (by kernel_rfl) rfl (by kernel_rfl) ?_
  intro K hK
  go_simp
  refine (same_rows RL _ _ _ (L_11.out.below hS1.out.2.2.2.2) HL2.out).mono ?_
  rintro e' wT2 ⟨rfl, hb2⟩
  have hS2 := Lib.hid (show (fun (w' : World) => Bk w' (w1.heap.size) #[.slice ua k.1.length uc, .slice ta k.2.length tc] 26 ∧ Bk w' (w5.heap.size) #[.slice u2a k2.1.length u2c, .slice t2a k2.2.length t2c] 26 ∧ Bk w' (w8.heap.size) #[.slice da DC.1.length dc, .slice db DC.2.length dd] 26 ∧ Bk w' (w10.heap.size) #[.slice ga DC.1.length gc, .slice gb DC.2.length gd] 26 ∧ Below V.heap.size V w') wT2 from ⟨hS1.out.1.below hb2, hS1.out.2.1.below hb2, hS1.out.2.2.1.below hb2, hS1.out.2.2.2.1.below hb2, hS1.out.2.2.2.2.trans (hb2.mono hS1.out.2.2.2.2.size)⟩)
  refine hK.out _ _ hS2.out ?_
  clear hK K
  refine T_take (i := 4) (v := .bool false) rfl (by kernel_rfl) (by kernel_rfl) (by kernel_rfl) (by kernel_rfl) (fun _ _ _ h => h) hS2.out (by kernel_rfl) (fun w' hS' => by obtain ⟨⟨h0, h1⟩, -⟩ := hS'.1.two; obtain ⟨⟨h2, h3⟩, -⟩ := hS'.2.1.two; obtain ⟨⟨h4, h5⟩, -⟩ := hS'.2.2.1.two; obtain ⟨⟨h6, h7⟩, -⟩ := hS'.2.2.2.1.two; go_simp) ?_
  refine T_take (i := 5) (v := .bool false) rfl (by kernel_rfl) (by kernel_rfl) (by kernel_rfl) (by kernel_rfl) (fun _ _ _ h => h) hS2.out (by kernel_rfl) (fun w' hS' => by obtain ⟨⟨h0, h1⟩, -⟩ := hS'.1.two; obtain ⟨⟨h2, h3⟩, -⟩ := hS'.2.1.two; obtain ⟨⟨h4, h5⟩, -⟩ := hS'.2.2.1.two; obtain ⟨⟨h6, h7⟩, -⟩ := hS'.2.2.2.1.two; go_simp) ?_
  refine T_take (i := 6) (v := .slice tb RT.length td) rfl (by kernel_rfl) (by kernel_rfl) (by kernel_rfl) (by kernel_rfl) (fun _ _ _ h => h) hS2.out (by kernel_rfl) (fun w' hS' => by obtain ⟨⟨h0, h1⟩, -⟩ := hS'.1.two; obtain ⟨⟨h2, h3⟩, -⟩ := hS'.2.1.two; obtain ⟨⟨h4, h5⟩, -⟩ := hS'.2.2.1.two; obtain ⟨⟨h6, h7⟩, -⟩ := hS'.2.2.2.1.two; go_simp) ?_
  refine T_take (i := 7) (v := .agg #[.slice ua k.1.length uc, .slice ta k.2.length tc]) rfl (by kernel_rfl) (by kernel_rfl) (by kernel_rfl) (by kernel_rfl) (fun _ _ _ h => h) hS2.out (by kernel_rfl) (fun w' hS' => by obtain ⟨⟨h0, h1⟩, -⟩ := hS'.1.two; obtain ⟨⟨h2, h3⟩, -⟩ := hS'.2.1.two; obtain ⟨⟨h4, h5⟩, -⟩ := hS'.2.2.1.two; obtain ⟨⟨h6, h7⟩, -⟩ := hS'.2.2.2.1.two; go_simp) ?_
  refine T_step (i := 8) rfl (by kernel_rfl) rfl (by kernel_rfl) ?_
  intro K hK
  go_simp
  refine (CT2.out _ _ (C_11.out.below hS2.out.2.2.2.2)).mono ?_
  rintro e' wT3 ⟨⟨tv2, rfl, ht2⟩, hb3⟩
  obtain ⟨t2b, t2d, rfl, _⟩ := ht2.shape1
  rw [intVals_len] at ht2 ⊢
  have HT2 := Lib.hid ht2.sl
  clear ht2
  have hS3 := Lib.hid (show (fun (w' : World) => Bk w' (w1.heap.size) #[.slice ua k.1.length uc, .slice ta k.2.length tc] 26 ∧ Bk w' (w5.heap.size) #[.slice u2a k2.1.length u2c, .slice t2a k2.2.length t2c] 26 ∧ Bk w' (w8.heap.size) #[.slice da DC.1.length dc, .slice db DC.2.length dd] 26 ∧ Bk w' (w10.heap.size) #[.slice ga DC.1.length gc, .slice gb DC.2.length gd] 26 ∧ Below V.heap.size V w') wT3 from ⟨hS2.out.1.below hb3, hS2.out.2.1.below hb3, hS2.out.2.2.1.below hb3, hS2.out.2.2.2.1.below hb3, hS2.out.2.2.2.2.trans (hb3.mono hS2.out.2.2.2.2.size)⟩)
  refine hK.out _ _ hS3.out ?_
  clear hK K
  refine T_step (i := 9) rfl (by kernel_rfl) rfl (by kernel_rfl) ?_
  intro K hK
  go_simp
  refine (same_int RT _ _ _ (T_11.out.below hS3.out.2.2.2.2) HT2.out).mono ?_
  rintro e' wT4 ⟨rfl, hb4⟩
  have hS4 := Lib.hid (show (fun (w' : World) => Bk w' (w1.heap.size) #[.slice ua k.1.length uc, .slice ta k.2.length tc] 26 ∧ Bk w' (w5.heap.size) #[.slice u2a k2.1.length u2c, .slice t2a k2.2.length t2c] 26 ∧ Bk w' (w8.heap.size) #[.slice da DC.1.length dc, .slice db DC.2.length dd] 26 ∧ Bk w' (w10.heap.size) #[.slice ga DC.1.length gc, .slice gb DC.2.length gd] 26 ∧ Below V.heap.size V w') wT4 from ⟨hS3.out.1.below hb4, hS3.out.2.1.below hb4, hS3.out.2.2.1.below hb4, hS3.out.2.2.2.1.below hb4, hS3.out.2.2.2.2.trans (hb4.mono hS3.out.2.2.2.2.size)⟩)
  refine hK.out _ _ hS4.out ?_
  clear hK K
  refine T_take (i := 10) (v := .bool false) rfl (by kernel_rfl) (by kernel_rfl) (by kernel_rfl) (by kernel_rfl) (fun _ _ _ h => h) hS4.out (by kernel_rfl) (fun w' hS' => by obtain ⟨⟨h0, h1⟩, -⟩ := hS'.1.two; obtain ⟨⟨h2, h3⟩, -⟩ := hS'.2.1.two; obtain ⟨⟨h4, h5⟩, -⟩ := hS'.2.2.1.two; obtain ⟨⟨h6, h7⟩, -⟩ := hS'.2.2.2.1.two; go_simp) ?_
  refine T_take (i := 11) (v := .bool false) rfl (by kernel_rfl) (by kernel_rfl) (by kernel_rfl) (by kernel_rfl) (fun _ _ _ h => h) hS4.out (by kernel_rfl) (fun w' hS' => by obtain ⟨⟨h0, h1⟩, -⟩ := hS'.1.two; obtain ⟨⟨h2, h3⟩, -⟩ := hS'.2.1.two; obtain ⟨⟨h4, h5⟩, -⟩ := hS'.2.2.1.two; obtain ⟨⟨h6, h7⟩, -⟩ := hS'.2.2.2.1.two; go_simp) ?_
  refine T_take (i := 12) (v := .bool false) rfl (by kernel_rfl) (by kernel_rfl) (by kernel_rfl) (by kernel_rfl) (fun _ _ _ h => h) hS4.out (by kernel_rfl) (fun w' hS' => by obtain ⟨⟨h0, h1⟩, -⟩ := hS'.1.two; obtain ⟨⟨h2, h3⟩, -⟩ := hS'.2.1.two; obtain ⟨⟨h4, h5⟩, -⟩ := hS'.2.2.1.two; obtain ⟨⟨h6, h7⟩, -⟩ := hS'.2.2.2.1.two; go_simp) ?_
  refine T_take (i := 13) (v := .agg #[.slice u2a k2.1.length u2c, .slice t2a k2.2.length t2c]) rfl (by kernel_rfl) (by kernel_rfl) (by kernel_rfl) (by kernel_rfl) (fun _ _ _ h => h) hS4.out (by kernel_rfl) (fun w' hS' => by obtain ⟨⟨h0, h1⟩, -⟩ := hS'.1.two; obtain ⟨⟨h2, h3⟩, -⟩ := hS'.2.1.two; obtain ⟨⟨h4, h5⟩, -⟩ := hS'.2.2.1.two; obtain ⟨⟨h6, h7⟩, -⟩ := hS'.2.2.2.1.two; go_simp) ?_
  refine T_take (i := 14) (v := .slice xa x2.length xc) rfl (by kernel_rfl) (by kernel_rfl) (by kernel_rfl) (by kernel_rfl) (fun _ _ _ h => h) hS4.out (by kernel_rfl) (fun w' hS' => by obtain ⟨⟨h0, h1⟩, -⟩ := hS'.1.two; obtain ⟨⟨h2, h3⟩, -⟩ := hS'.2.1.two; obtain ⟨⟨h4, h5⟩, -⟩ := hS'.2.2.1.two; obtain ⟨⟨h6, h7⟩, -⟩ := hS'.2.2.2.1.two; go_simp) ?_
  refine T_take (i := 16) (v := .agg #[.slice u2a k2.1.length u2c, .slice t2a k2.2.length t2c]) rfl (by kernel_rfl) (by kernel_rfl) (by kernel_rfl) (by kernel_rfl) (fun _ _ _ h => h) hS4.out (by kernel_rfl) (fun w' hS' => by obtain ⟨⟨h0, h1⟩, -⟩ := hS'.1.two; obtain ⟨⟨h2, h3⟩, -⟩ := hS'.2.1.two; obtain ⟨⟨h4, h5⟩, -⟩ := hS'.2.2.1.two; obtain ⟨⟨h6, h7⟩, -⟩ := hS'.2.2.2.1.two; go_simp) ?_
  refine T_take (i := 17) (v := .slice xa x2.length xc) rfl (by kernel_rfl) (by kernel_rfl) (by kernel_rfl) (by kernel_rfl) (fun _ _ _ h => h) hS4.out (by kernel_rfl) (fun w' hS' => by obtain ⟨⟨h0, h1⟩, -⟩ := hS'.1.two; obtain ⟨⟨h2, h3⟩, -⟩ := hS'.2.1.two; obtain ⟨⟨h4, h5⟩, -⟩ := hS'.2.2.1.two; obtain ⟨⟨h6, h7⟩, -⟩ := hS'.2.2.2.1.two; go_simp) ?_
  refine T_step (i := 15) rfl (by kernel_rfl) rfl (by kernel_rfl) ?_
  intro K hK
  go_simp
  refine (CN1.out _ _ _ (C2_11.out.below hS4.out.2.2.2.2) (X2_11.out.below hS4.out.2.2.2.2)).mono ?_
  rintro e' wT5 ⟨rfl, hb5⟩
  have hS5 := Lib.hid (show (fun (w' : World) => Bk w' (w1.heap.size) #[.slice ua k.1.length uc, .slice ta k.2.length tc] 26 ∧ Bk w' (w5.heap.size) #[.slice u2a k2.1.length u2c, .slice t2a k2.2.length t2c] 26 ∧ Bk w' (w8.heap.size) #[.slice da DC.1.length dc, .slice db DC.2.length dd] 26 ∧ Bk w' (w10.heap.size) #[.slice ga DC.1.length gc, .slice gb DC.2.length gd] 26 ∧ Below V.heap.size V w') wT5 from ⟨hS4.out.1.below hb5, hS4.out.2.1.below hb5, hS4.out.2.2.1.below hb5, hS4.out.2.2.2.1.below hb5, hS4.out.2.2.2.2.trans (hb5.mono hS4.out.2.2.2.2.size)⟩)
  refine hK.out _ _ hS5.out ?_
  clear hK K
  refine T_step (i := 18) rfl (by kernel_rfl) rfl (by kernel_rfl) ?_
  intro K hK
  go_simp
  refine (CN2.out _ _ _ (C2_11.out.below hS5.out.2.2.2.2) (X2_11.out.below hS5.out.2.2.2.2)).mono ?_
  rintro e' wT6 ⟨rfl, hb6⟩
  have hS6 := Lib.hid (show (fun (w' : World) => Bk w' (w1.heap.size) #[.slice ua k.1.length uc, .slice ta k.2.length tc] 26 ∧ Bk w' (w5.heap.size) #[.slice u2a k2.1.length u2c, .slice t2a k2.2.length t2c] 26 ∧ Bk w' (w8.heap.size) #[.slice da DC.1.length dc, .slice db DC.2.length dd] 26 ∧ Bk w' (w10.heap.size) #[.slice ga DC.1.length gc, .slice gb DC.2.length gd] 26 ∧ Below V.heap.size V w') wT6 from ⟨hS5.out.1.below hb6, hS5.out.2.1.below hb6, hS5.out.2.2.1.below hb6, hS5.out.2.2.2.1.below hb6, hS5.out.2.2.2.2.trans (hb6.mono hS5.out.2.2.2.2.size)⟩)
  refine hK.out _ _ hS6.out ?_
  clear hK K
  refine T_take (i := 19) (v := .bool false) rfl (by kernel_rfl) (by kernel_rfl) (by kernel_rfl) (by kernel_rfl) (fun _ _ _ h => h) hS6.out (by kernel_rfl) (fun w' hS' => by obtain ⟨⟨h0, h1⟩, -⟩ := hS'.1.two; obtain ⟨⟨h2, h3⟩, -⟩ := hS'.2.1.two; obtain ⟨⟨h4, h5⟩, -⟩ := hS'.2.2.1.two; obtain ⟨⟨h6, h7⟩, -⟩ := hS'.2.2.2.1.two; go_simp) ?_
  refine T_take (i := 20) (v := .bool false) rfl (by kernel_rfl) (by kernel_rfl) (by kernel_rfl) (by kernel_rfl) (fun _ _ _ h => h) hS6.out (by kernel_rfl) (fun w' hS' => by obtain ⟨⟨h0, h1⟩, -⟩ := hS'.1.two; obtain ⟨⟨h2, h3⟩, -⟩ := hS'.2.1.two; obtain ⟨⟨h4, h5⟩, -⟩ := hS'.2.2.1.two; obtain ⟨⟨h6, h7⟩, -⟩ := hS'.2.2.2.1.two; go_simp) ?_
  refine T_take (i := 21) (v := .bool false) rfl (by kernel_rfl) (by kernel_rfl) (by kernel_rfl) (by kernel_rfl) (fun _ _ _ h => h) hS6.out (by kernel_rfl) (fun w' hS' => by obtain ⟨⟨h0, h1⟩, -⟩ := hS'.1.two; obtain ⟨⟨h2, h3⟩, -⟩ := hS'.2.1.two; obtain ⟨⟨h4, h5⟩, -⟩ := hS'.2.2.1.two; obtain ⟨⟨h6, h7⟩, -⟩ := hS'.2.2.2.1.two; go_simp) ?_
  refine T_take (i := 22) (v := .bool ok) rfl (by kernel_rfl) (by kernel_rfl) (by kernel_rfl) (by kernel_rfl) (fun _ _ _ h => h) hS6.out (by kernel_rfl) (fun w' hS' => by obtain ⟨⟨h0, h1⟩, -⟩ := hS'.1.two; obtain ⟨⟨h2, h3⟩, -⟩ := hS'.2.1.two; obtain ⟨⟨h4, h5⟩, -⟩ := hS'.2.2.1.two; obtain ⟨⟨h6, h7⟩, -⟩ := hS'.2.2.2.1.two; go_simp) ?_
  refine T_take (i := 23) (v := .bool ok) rfl (by kernel_rfl) (by kernel_rfl) (by kernel_rfl) (by kernel_rfl) (fun _ _ _ h => h) hS6.out (by kernel_rfl) (fun w' hS' => by obtain ⟨⟨h0, h1⟩, -⟩ := hS'.1.two; obtain ⟨⟨h2, h3⟩, -⟩ := hS'.2.1.two; obtain ⟨⟨h4, h5⟩, -⟩ := hS'.2.2.1.two; obtain ⟨⟨h6, h7⟩, -⟩ := hS'.2.2.2.1.two; go_simp) ?_
  refine T_take (i := 24) (v := .bool false) rfl (by kernel_rfl) (by kernel_rfl) (by kernel_rfl) (by kernel_rfl) (fun _ _ _ h => h) hS6.out (by kernel_rfl) (fun w' hS' => by obtain ⟨⟨h0, h1⟩, -⟩ := hS'.1.two; obtain ⟨⟨h2, h3⟩, -⟩ := hS'.2.1.two; obtain ⟨⟨h4, h5⟩, -⟩ := hS'.2.2.1.two; obtain ⟨⟨h6, h7⟩, -⟩ := hS'.2.2.2.1.two; go_simp) ?_
  refine T_take (i := 25) (v := .bool false) rfl (by kernel_rfl) (by kernel_rfl) (by kernel_rfl) (by kernel_rfl) (fun _ _ _ h => h) hS6.out (by kernel_rfl) (fun w' hS' => by obtain ⟨⟨h0, h1⟩, -⟩ := hS'.1.two; obtain ⟨⟨h2, h3⟩, -⟩ := hS'.2.1.two; obtain ⟨⟨h4, h5⟩, -⟩ := hS'.2.2.1.two; obtain ⟨⟨h6, h7⟩, -⟩ := hS'.2.2.2.1.two; go_simp) ?_
  refine T_take (i := 26) (v := .bool false) rfl (by kernel_rfl) (by kernel_rfl) (by kernel_rfl) (by kernel_rfl) (fun _ _ _ h => h) hS6.out (by kernel_rfl) (fun w' hS' => by obtain ⟨⟨h0, h1⟩, -⟩ := hS'.1.two; obtain ⟨⟨h2, h3⟩, -⟩ := hS'.2.1.two; obtain ⟨⟨h4, h5⟩, -⟩ := hS'.2.2.1.two; obtain ⟨⟨h6, h7⟩, -⟩ := hS'.2.2.2.1.two; go_simp) ?_
  refine T_take (i := 27) (v := .agg #[.slice da DC.1.length dc, .slice db DC.2.length dd]) rfl (by kernel_rfl) (by kernel_rfl) (by kernel_rfl) (by kernel_rfl) (fun _ _ _ h => h) hS6.out (by kernel_rfl) (fun w' hS' => by obtain ⟨⟨h0, h1⟩, -⟩ := hS'.1.two; obtain ⟨⟨h2, h3⟩, -⟩ := hS'.2.1.two; obtain ⟨⟨h4, h5⟩, -⟩ := hS'.2.2.1.two; obtain ⟨⟨h6, h7⟩, -⟩ := hS'.2.2.2.1.two; go_simp) ?_
  refine T_take (i := 28) (v := .agg #[.slice ga DC.1.length gc, .slice gb DC.2.length gd]) rfl (by kernel_rfl) (by kernel_rfl) (by kernel_rfl) (by kernel_rfl) (fun _ _ _ h => h) hS6.out (by kernel_rfl) (fun w' hS' => by obtain ⟨⟨h0, h1⟩, -⟩ := hS'.1.two; obtain ⟨⟨h2, h3⟩, -⟩ := hS'.2.1.two; obtain ⟨⟨h4, h5⟩, -⟩ := hS'.2.2.1.two; obtain ⟨⟨h6, h7⟩, -⟩ := hS'.2.2.2.1.two; go_simp) ?_
  refine T_step (i := 29) rfl (by kernel_rfl) rfl (by kernel_rfl) ?_
  intro K hK
  go_simp
  refine (same_cone DC _ _ _ (D_11.out.below hS6.out.2.2.2.2) (G_11.out.below hS6.out.2.2.2.2)).mono ?_
  rintro e' wT7 ⟨rfl, hb7⟩
  have hS7 := Lib.hid (show (fun (w' : World) => Bk w' (w1.heap.size) #[.slice ua k.1.length uc, .slice ta k.2.length tc] 26 ∧ Bk w' (w5.heap.size) #[.slice u2a k2.1.length u2c, .slice t2a k2.2.length t2c] 26 ∧ Bk w' (w8.heap.size) #[.slice da DC.1.length dc, .slice db DC.2.length dd] 26 ∧ Bk w' (w10.heap.size) #[.slice ga DC.1.length gc, .slice gb DC.2.length gd] 26 ∧ Below V.heap.size V w') wT7 from ⟨hS6.out.1.below hb7, hS6.out.2.1.below hb7, hS6.out.2.2.1.below hb7, hS6.out.2.2.2.1.below hb7, hS6.out.2.2.2.2.trans (hb7.mono hS6.out.2.2.2.2.size)⟩)
  refine hK.out _ _ hS7.out ?_
  clear hK K
  refine T_take (i := 30) (v := .bool false) rfl (by kernel_rfl) (by kernel_rfl) (by kernel_rfl) (by kernel_rfl) (fun _ _ _ h => h) hS7.out (by kernel_rfl) (fun w' hS' => by obtain ⟨⟨h0, h1⟩, -⟩ := hS'.1.two; obtain ⟨⟨h2, h3⟩, -⟩ := hS'.2.1.two; obtain ⟨⟨h4, h5⟩, -⟩ := hS'.2.2.1.two; obtain ⟨⟨h6, h7⟩, -⟩ := hS'.2.2.2.1.two; go_simp) ?_
  refine T_take (i := 31) (v := .bool false) rfl (by kernel_rfl) (by kernel_rfl) (by kernel_rfl) (by kernel_rfl) (fun _ _ _ h => h) hS7.out (by kernel_rfl) (fun w' hS' => by obtain ⟨⟨h0, h1⟩, -⟩ := hS'.1.two; obtain ⟨⟨h2, h3⟩, -⟩ := hS'.2.1.two; obtain ⟨⟨h4, h5⟩, -⟩ := hS'.2.2.1.two; obtain ⟨⟨h6, h7⟩, -⟩ := hS'.2.2.2.1.two; go_simp) ?_
  refine T_take (i := 32) (v := .bool false) rfl (by kernel_rfl) (by kernel_rfl) (by kernel_rfl) (by kernel_rfl) (fun _ _ _ h => h) hS7.out (by kernel_rfl) (fun w' hS' => by obtain ⟨⟨h0, h1⟩, -⟩ := hS'.1.two; obtain ⟨⟨h2, h3⟩, -⟩ := hS'.2.1.two; obtain ⟨⟨h4, h5⟩, -⟩ := hS'.2.2.1.two; obtain ⟨⟨h6, h7⟩, -⟩ := hS'.2.2.2.1.two; go_simp) ?_
  refine T_take (i := 33) (v := .agg #[.slice ua k.1.length uc, .slice ta k.2.length tc]) rfl (by kernel_rfl) (by kernel_rfl) (by kernel_rfl) (by kernel_rfl) (fun _ _ _ h => h) hS7.out (by kernel_rfl) (fun w' hS' => by obtain ⟨⟨h0, h1⟩, -⟩ := hS'.1.two; obtain ⟨⟨h2, h3⟩, -⟩ := hS'.2.1.two; obtain ⟨⟨h4, h5⟩, -⟩ := hS'.2.2.1.two; obtain ⟨⟨h6, h7⟩, -⟩ := hS'.2.2.2.1.two; go_simp) ?_
  refine T_take (i := 35) (v := .agg #[.slice ua k.1.length uc, .slice ta k.2.length tc]) rfl (by kernel_rfl) (by kernel_rfl) (by kernel_rfl) (by kernel_rfl) (fun _ _ _ h => h) hS7.out (by kernel_rfl) (fun w' hS' => by obtain ⟨⟨h0, h1⟩, -⟩ := hS'.1.two; obtain ⟨⟨h2, h3⟩, -⟩ := hS'.2.1.two; obtain ⟨⟨h4, h5⟩, -⟩ := hS'.2.2.1.two; obtain ⟨⟨h6, h7⟩, -⟩ := hS'.2.2.2.1.two; go_simp) ?_
  refine T_step (i := 34) rfl (by kernel_rfl) rfl (by kernel_rfl) ?_
  intro K hK
  go_simp
  refine (CI1.out _ _ (C_11.out.below hS7.out.2.2.2.2)).mono ?_
  rintro e' wT8 ⟨rfl, hb8⟩
  have hS8 := Lib.hid (show (fun (w' : World) => Bk w' (w1.heap.size) #[.slice ua k.1.length uc, .slice ta k.2.length tc] 26 ∧ Bk w' (w5.heap.size) #[.slice u2a k2.1.length u2c, .slice t2a k2.2.length t2c] 26 ∧ Bk w' (w8.heap.size) #[.slice da DC.1.length dc, .slice db DC.2.length dd] 26 ∧ Bk w' (w10.heap.size) #[.slice ga DC.1.length gc, .slice gb DC.2.length gd] 26 ∧ Below V.heap.size V w') wT8 from ⟨hS7.out.1.below hb8, hS7.out.2.1.below hb8, hS7.out.2.2.1.below hb8, hS7.out.2.2.2.1.below hb8, hS7.out.2.2.2.2.trans (hb8.mono hS7.out.2.2.2.2.size)⟩)
  refine hK.out _ _ hS8.out ?_
  clear hK K
  refine T_step (i := 36) rfl (by kernel_rfl) rfl (by kernel_rfl) ?_
  intro K hK
  go_simp
  refine (CI2.out _ _ (C_11.out.below hS8.out.2.2.2.2)).mono ?_
  rintro e' wT9 ⟨rfl, hb9⟩
  have hS9 := Lib.hid (show (fun (w' : World) => Bk w' (w1.heap.size) #[.slice ua k.1.length uc, .slice ta k.2.length tc] 26 ∧ Bk w' (w5.heap.size) #[.slice u2a k2.1.length u2c, .slice t2a k2.2.length t2c] 26 ∧ Bk w' (w8.heap.size) #[.slice da DC.1.length dc, .slice db DC.2.length dd] 26 ∧ Bk w' (w10.heap.size) #[.slice ga DC.1.length gc, .slice gb DC.2.length gd] 26 ∧ Below V.heap.size V w') wT9 from ⟨hS8.out.1.below hb9, hS8.out.2.1.below hb9, hS8.out.2.2.1.below hb9, hS8.out.2.2.2.1.below hb9, hS8.out.2.2.2.2.trans (hb9.mono hS8.out.2.2.2.2.size)⟩)
  refine hK.out _ _ hS9.out ?_
  clear hK K
  refine T_take (i := 37) (v := .bool false) rfl (by kernel_rfl) (by kernel_rfl) (by kernel_rfl) (by kernel_rfl) (fun _ _ _ h => h) hS9.out (by kernel_rfl) (fun w' hS' => by obtain ⟨⟨h0, h1⟩, -⟩ := hS'.1.two; obtain ⟨⟨h2, h3⟩, -⟩ := hS'.2.1.two; obtain ⟨⟨h4, h5⟩, -⟩ := hS'.2.2.1.two; obtain ⟨⟨h6, h7⟩, -⟩ := hS'.2.2.2.1.two; go_simp) ?_
  refine T_take (i := 38) (v := .bool false) rfl (by kernel_rfl) (by kernel_rfl) (by kernel_rfl) (by kernel_rfl) (fun _ _ _ h => h) hS9.out (by kernel_rfl) (fun w' hS' => by obtain ⟨⟨h0, h1⟩, -⟩ := hS'.1.two; obtain ⟨⟨h2, h3⟩, -⟩ := hS'.2.1.two; obtain ⟨⟨h4, h5⟩, -⟩ := hS'.2.2.1.two; obtain ⟨⟨h6, h7⟩, -⟩ := hS'.2.2.2.1.two; go_simp) ?_
  refine T_take (i := 39) (v := .bool false) rfl (by kernel_rfl) (by kernel_rfl) (by kernel_rfl) (by kernel_rfl) (fun _ _ _ h => h) hS9.out (by kernel_rfl) (fun w' hS' => by obtain ⟨⟨h0, h1⟩, -⟩ := hS'.1.two; obtain ⟨⟨h2, h3⟩, -⟩ := hS'.2.1.two; obtain ⟨⟨h4, h5⟩, -⟩ := hS'.2.2.1.two; obtain ⟨⟨h6, h7⟩, -⟩ := hS'.2.2.2.1.two; go_simp) ?_
  refine T_take (i := 40) (v := .agg #[.slice ua k.1.length uc, .slice ta k.2.length tc]) rfl (by kernel_rfl) (by kernel_rfl) (by kernel_rfl) (by kernel_rfl) (fun _ _ _ h => h) hS9.out (by kernel_rfl) (fun w' hS' => by obtain ⟨⟨h0, h1⟩, -⟩ := hS'.1.two; obtain ⟨⟨h2, h3⟩, -⟩ := hS'.2.1.two; obtain ⟨⟨h4, h5⟩, -⟩ := hS'.2.2.1.two; obtain ⟨⟨h6, h7⟩, -⟩ := hS'.2.2.2.1.two; go_simp) ?_
  refine T_take (i := 42) (v := .agg #[.slice ua k.1.length uc, .slice ta k.2.length tc]) rfl (by kernel_rfl) (by kernel_rfl) (by kernel_rfl) (by kernel_rfl) (fun _ _ _ h => h) hS9.out (by kernel_rfl) (fun w' hS' => by obtain ⟨⟨h0, h1⟩, -⟩ := hS'.1.two; obtain ⟨⟨h2, h3⟩, -⟩ := hS'.2.1.two; obtain ⟨⟨h4, h5⟩, -⟩ := hS'.2.2.1.two; obtain ⟨⟨h6, h7⟩, -⟩ := hS'.2.2.2.1.two; go_simp) ?_
  refine T_step (i := 41) rfl (by kernel_rfl) rfl (by kernel_rfl) ?_
  intro K hK
  go_simp
  refine (CK1.out _ _ (C_11.out.below hS9.out.2.2.2.2)).mono ?_
  rintro e' wT10 ⟨rfl, hb10⟩
  have hS10 := Lib.hid (show (fun (w' : World) => Bk w' (w1.heap.size) #[.slice ua k.1.length uc, .slice ta k.2.length tc] 26 ∧ Bk w' (w5.heap.size) #[.slice u2a k2.1.length u2c, .slice t2a k2.2.length t2c] 26 ∧ Bk w' (w8.heap.size) #[.slice da DC.1.length dc, .slice db DC.2.length dd] 26 ∧ Bk w' (w10.heap.size) #[.slice ga DC.1.length gc, .slice gb DC.2.length gd] 26 ∧ Below V.heap.size V w') wT10 from ⟨hS9.out.1.below hb10, hS9.out.2.1.below hb10, hS9.out.2.2.1.below hb10, hS9.out.2.2.2.1.below hb10, hS9.out.2.2.2.2.trans (hb10.mono hS9.out.2.2.2.2.size)⟩)
  refine hK.out _ _ hS10.out ?_
  clear hK K
  refine T_step (i := 43) rfl (by kernel_rfl) rfl (by kernel_rfl) ?_
  intro K hK
  go_simp
  refine (CK2.out _ _ (C_11.out.below hS10.out.2.2.2.2)).mono ?_
  rintro e' wT11 ⟨rfl, hb11⟩
  have hS11 := Lib.hid (show (fun (w' : World) => Bk w' (w1.heap.size) #[.slice ua k.1.length uc, .slice ta k.2.length tc] 26 ∧ Bk w' (w5.heap.size) #[.slice u2a k2.1.length u2c, .slice t2a k2.2.length t2c] 26 ∧ Bk w' (w8.heap.size) #[.slice da DC.1.length dc, .slice db DC.2.length dd] 26 ∧ Bk w' (w10.heap.size) #[.slice ga DC.1.length gc, .slice gb DC.2.length gd] 26 ∧ Below V.heap.size V w') wT11 from ⟨hS10.out.1.below hb11, hS10.out.2.1.below hb11, hS10.out.2.2.1.below hb11, hS10.out.2.2.2.1.below hb11, hS10.out.2.2.2.2.trans (hb11.mono hS10.out.2.2.2.2.size)⟩)
  refine hK.out _ _ hS11.out ?_
  clear hK K
  refine T_take (i := 44) (v := .bool false) rfl (by kernel_rfl) (by kernel_rfl) (by kernel_rfl) (by kernel_rfl) (fun _ _ _ h => h) hS11.out (by kernel_rfl) (fun w' hS' => by obtain ⟨⟨h0, h1⟩, -⟩ := hS'.1.two; obtain ⟨⟨h2, h3⟩, -⟩ := hS'.2.1.two; obtain ⟨⟨h4, h5⟩, -⟩ := hS'.2.2.1.two; obtain ⟨⟨h6, h7⟩, -⟩ := hS'.2.2.2.1.two; go_simp) ?_
  refine T_take (i := 45) (v := .bool false) rfl (by kernel_rfl) (by kernel_rfl) (by kernel_rfl) (by kernel_rfl) (fun _ _ _ h => h) hS11.out (by kernel_rfl) (fun w' hS' => by obtain ⟨⟨h0, h1⟩, -⟩ := hS'.1.two; obtain ⟨⟨h2, h3⟩, -⟩ := hS'.2.1.two; obtain ⟨⟨h4, h5⟩, -⟩ := hS'.2.2.1.two; obtain ⟨⟨h6, h7⟩, -⟩ := hS'.2.2.2.1.two; go_simp) ?_
  refine ⟨by kernel_rfl, ?_⟩
  have PB := Lib.hid hS11.out.1
  have P9B := Lib.hid hS11.out.2.2.1
  have BW := Lib.hid hS11.out.2.2.2.2
  clear hS0 hS1 hS2 hS3 hS4 hS5 hS6 hS7 hS8 hS9 hS10 hS11
  obtain ⟨⟨l0, l1⟩, -⟩ := PB.out.two
  obtain ⟨⟨m0, m1⟩, -⟩ := P9B.out.two
  cases ok with
  | false =>
    clear m0 m1
    go_wp2_with fail
    refine (CK2.out _ _ (C_11.out.below BW.out)).mono ?_
    rintro e q1 ⟨rfl, hbq⟩
    have PB1 := Lib.hid (PB.out.below hbq)
    have BW1 := Lib.hid (BW.out.trans (hbq.mono BW.out.size))
    clear hbq l0 l1
    cases qc with
    | false =>
      have r0 : RL = [] := ERL.out.symm.trans (law_no Eqc.out).1
      have r1 : RT = [] := ERT.out.symm.trans (law_no Eqc.out).2
      subst r0
      subst r1
      go_wp2_with fail
      go_ret
      exact ⟨rfl, BV.out.trans (BW1.out.mono BV.out.size)⟩
    | true =>
      obtain ⟨M, LC⟩ := law_of Eqc.out
      have HLC := Lib.hid LC
      have HRL := Lib.hid (ERL.out.symm.trans LC.rows)
      have hRT : RT = turnsP M := ERT.out.symm.trans LC.turns
      have hn2 := LC.two
      have hnL := LC.len
      have lenL : RL.length = M.length := by rw [HRL.out, List.length_map]
      obtain ⟨h0, g0⟩ := law_get HRL.out LC.head
      obtain ⟨h9, g9⟩ := law_get HRL.out LC.last
      rw [LC.c1] at g0
      rw [LC.c2] at g9
      obtain ⟨lb, lo, r0, el, hlb, hc0, hs0⟩ := L_11.out.row 0 h0 rfl
      subst el
      rw [g0] at hs0
      obtain ⟨lb2, lo2, r9, el, _, hc9, hs9⟩ := L_11.out.row (M.length - 1) h9 rfl
      simp only [Option.some.injEq, Addr.mk.injEq, and_true] at el
      obtain ⟨rfl, rfl⟩ := el
      rw [g9] at hs9
      simp only [Nat.add_zero] at hc0
      have HS0 := Lib.hid hs0
      have HS9 := Lib.hid hs9
      obtain ⟨n, hn⟩ : ∃ n, M.length = n := ⟨_, rfl⟩
      obtain ⟨nl, hnl⟩ : ∃ nl, n = nl + 1 := ⟨n - 1, by omega⟩
      obtain ⟨m, hm⟩ : ∃ m, n = m + 2 := ⟨n - 2, by omega⟩
      have lenT : RT.length = m := by rw [hRT, turnsP_len, hn]; omega
      rw [hn] at lenL hn2 hnL
      rw [show M.length - 1 = nl by omega] at hc9
      have HN := Lib.hid hn
      have HNL := Lib.hid (And.intro hnl hm)
      have HRT := Lib.hid hRT
      have HLL := Lib.hid lenL
      rw [lenL, lenT]
      have f1 : ¬ (n : Int) < 2 := by omega
      have f2 : IntKind.i64.wrap ((n : Int) - 2) = (m : Int) := by rw [IntWalk.i64_in _ (by omega)]; omega
      have f3 : IntKind.i64.wrap ((n : Int) - 1) = (nl : Int) := by rw [IntWalk.i64_in _ (by omega)]; omega
      have f4 : (0 : Int) < (n : Int) := by omega
      have f5 : (nl : Int) < (n : Int) := by omega
      have f6 : (0 : Int) ≤ (nl : Int) := by omega
      have e0 := (BW1.out.cell (p := ⟨lb, lo, none⟩) hlb).trans hc0
      have e9 := (BW1.out.cell (p := ⟨lb, lo + nl, none⟩) hlb).trans hc9
      clear hc0 hc9 hs0 hs9 g0 g9 h0 h9 hn hnl hm hRT lenL lenT LC
      go_wp2_with fail
      refine T_begin (z := fun k => 31 < k) (S := fun (w' : World) => Bk w' (w1.heap.size) #[.slice ua k.1.length uc, .slice ta k.2.length tc] 26 ∧ w'.cell? ⟨lb, lo, none⟩ = some r0 ∧ w'.cell? ⟨lb, lo + nl, none⟩ = some r9 ∧ Below V.heap.size V w') (by kernel_rfl) ?_
      show wpAnyT _ _ _ _ _ _ 32 _ _ _
      have hS0 := Lib.hid (show (fun (w' : World) => Bk w' (w1.heap.size) #[.slice ua k.1.length uc, .slice ta k.2.length tc] 26 ∧ w'.cell? ⟨lb, lo, none⟩ = some r0 ∧ w'.cell? ⟨lb, lo + nl, none⟩ = some r9 ∧ Below V.heap.size V w') (q1.drew) from ⟨PB1.out, e0, e9, BW1.out.drew⟩)
      refine T_take (i := 0) (v := .slice (some ⟨lb, lo, none⟩) n lc) rfl (by kernel_rfl) (by kernel_rfl) (by kernel_rfl) (by kernel_rfl) (fun _ _ _ h => h) hS0.out (by kernel_rfl) (fun w' hS' => by obtain ⟨⟨h0, h1⟩, -⟩ := hS'.1.two; obtain ⟨-, h2, h3, -⟩ := hS'; go_simp) ?_
      refine T_take (i := 1) (v := .int .i64 n) rfl (by kernel_rfl) (by kernel_rfl) (by kernel_rfl) (by kernel_rfl) (fun _ _ _ h => h) hS0.out (by kernel_rfl) (fun w' hS' => by obtain ⟨⟨h0, h1⟩, -⟩ := hS'.1.two; obtain ⟨-, h2, h3, -⟩ := hS'; go_simp) ?_
      refine T_take (i := 2) (v := .bool false) rfl (by kernel_rfl) (by kernel_rfl) (by kernel_rfl) (by kernel_rfl) (fun _ _ _ h => h) hS0.out (by kernel_rfl) (fun w' hS' => by obtain ⟨⟨h0, h1⟩, -⟩ := hS'.1.two; obtain ⟨-, h2, h3, -⟩ := hS'; go_simp) ?_
      refine T_take (i := 3) (v := .bool false) rfl (by kernel_rfl) (by kernel_rfl) (by kernel_rfl) (by kernel_rfl) (fun _ _ _ h => h) hS0.out (by kernel_rfl) (fun w' hS' => by obtain ⟨⟨h0, h1⟩, -⟩ := hS'.1.two; obtain ⟨-, h2, h3, -⟩ := hS'; go_simp) ?_
      refine T_take (i := 4) (v := .slice tb m td) rfl (by kernel_rfl) (by kernel_rfl) (by kernel_rfl) (by kernel_rfl) (fun _ _ _ h => h) hS0.out (by kernel_rfl) (fun w' hS' => by obtain ⟨⟨h0, h1⟩, -⟩ := hS'.1.two; obtain ⟨-, h2, h3, -⟩ := hS'; go_simp) ?_
      refine T_take (i := 5) (v := .int .i64 m) rfl (by kernel_rfl) (by kernel_rfl) (by kernel_rfl) (by kernel_rfl) (fun _ _ _ h => h) hS0.out (by kernel_rfl) (fun w' hS' => by obtain ⟨⟨h0, h1⟩, -⟩ := hS'.1.two; obtain ⟨-, h2, h3, -⟩ := hS'; go_simp) ?_
      refine T_take (i := 6) (v := .slice (some ⟨lb, lo, none⟩) n lc) rfl (by kernel_rfl) (by kernel_rfl) (by kernel_rfl) (by kernel_rfl) (fun _ _ _ h => h) hS0.out (by kernel_rfl) (fun w' hS' => by obtain ⟨⟨h0, h1⟩, -⟩ := hS'.1.two; obtain ⟨-, h2, h3, -⟩ := hS'; go_simp) ?_
      refine T_take (i := 7) (v := .int .i64 n) rfl (by kernel_rfl) (by kernel_rfl) (by kernel_rfl) (by kernel_rfl) (fun _ _ _ h => h) hS0.out (by kernel_rfl) (fun w' hS' => by obtain ⟨⟨h0, h1⟩, -⟩ := hS'.1.two; obtain ⟨-, h2, h3, -⟩ := hS'; go_simp) ?_
      refine T_take (i := 8) (v := .int .i64 m) rfl (by kernel_rfl) (by kernel_rfl) (by kernel_rfl) (by kernel_rfl) (fun _ _ _ h => h) hS0.out (by kernel_rfl) (fun w' hS' => by obtain ⟨⟨h0, h1⟩, -⟩ := hS'.1.two; obtain ⟨-, h2, h3, -⟩ := hS'; go_simp) ?_
      refine T_take (i := 9) (v := .bool false) rfl (by kernel_rfl) (by kernel_rfl) (by kernel_rfl) (by kernel_rfl) (fun _ _ _ h => h) hS0.out (by kernel_rfl) (fun w' hS' => by obtain ⟨⟨h0, h1⟩, -⟩ := hS'.1.two; obtain ⟨-, h2, h3, -⟩ := hS'; go_simp) ?_
      refine T_take (i := 10) (v := .bool false) rfl (by kernel_rfl) (by kernel_rfl) (by kernel_rfl) (by kernel_rfl) (fun _ _ _ h => h) hS0.out (by kernel_rfl) (fun w' hS' => by obtain ⟨⟨h0, h1⟩, -⟩ := hS'.1.two; obtain ⟨-, h2, h3, -⟩ := hS'; go_simp) ?_
      refine T_take (i := 11) (v := .bool false) rfl (by kernel_rfl) (by kernel_rfl) (by kernel_rfl) (by kernel_rfl) (fun _ _ _ h => h) hS0.out (by kernel_rfl) (fun w' hS' => by obtain ⟨⟨h0, h1⟩, -⟩ := hS'.1.two; obtain ⟨-, h2, h3, -⟩ := hS'; go_simp) ?_
      refine T_take (i := 12) (v := .slice (some ⟨lb, lo, none⟩) n lc) rfl (by kernel_rfl) (by kernel_rfl) (by kernel_rfl) (by kernel_rfl) (fun _ _ _ h => h) hS0.out (by kernel_rfl) (fun w' hS' => by obtain ⟨⟨h0, h1⟩, -⟩ := hS'.1.two; obtain ⟨-, h2, h3, -⟩ := hS'; go_simp) ?_
      refine T_take (i := 13) (v := .pointer (some ⟨lb, lo, none⟩)) rfl (by kernel_rfl) (by kernel_rfl) (by kernel_rfl) (by kernel_rfl) (fun _ _ _ h => h) hS0.out (by kernel_rfl) (fun w' hS' => by obtain ⟨⟨h0, h1⟩, -⟩ := hS'.1.two; obtain ⟨-, h2, h3, -⟩ := hS'; go_simp; try (intro hz; omega)) ?_
      refine T_take (i := 14) (v := r0) rfl (by kernel_rfl) (by kernel_rfl) (by kernel_rfl) (by kernel_rfl) (fun _ _ _ h => h) hS0.out (by kernel_rfl) (fun w' hS' => by obtain ⟨⟨h0, h1⟩, -⟩ := hS'.1.two; obtain ⟨-, h2, h3, -⟩ := hS'; go_simp) ?_
      refine T_take (i := 15) (v := .pointer (some ⟨w1.heap.size, 0, none⟩)) rfl (by kernel_rfl) (by kernel_rfl) (by kernel_rfl) (by kernel_rfl) (fun _ _ _ h => h) hS0.out (by kernel_rfl) (fun w' hS' => by obtain ⟨⟨h0, h1⟩, -⟩ := hS'.1.two; obtain ⟨-, h2, h3, -⟩ := hS'; go_simp) ?_
      refine T_take (i := 16) (v := .slice ua k.1.length uc) rfl (by kernel_rfl) (by kernel_rfl) (by kernel_rfl) (by kernel_rfl) (fun _ _ _ h => h) hS0.out (by kernel_rfl) (fun w' hS' => by obtain ⟨⟨h0, h1⟩, -⟩ := hS'.1.two; obtain ⟨-, h2, h3, -⟩ := hS'; go_simp) ?_
      refine T_step (i := 17) rfl (by kernel_rfl) rfl (by kernel_rfl) ?_
      intro K hK
      go_simp
      refine (same_int k.1 _ _ _ (HS0.out.below hS0.out.2.2.2) (CU_11.out.below hS0.out.2.2.2)).mono ?_
      rintro e' wT1 ⟨rfl, hb1⟩
      have hS1 := Lib.hid (show (fun (w' : World) => Bk w' (w1.heap.size) #[.slice ua k.1.length uc, .slice ta k.2.length tc] 26 ∧ w'.cell? ⟨lb, lo, none⟩ = some r0 ∧ w'.cell? ⟨lb, lo + nl, none⟩ = some r9 ∧ Below V.heap.size V w') wT1 from ⟨hS0.out.1.below hb1, (hb1.cell (p := ⟨lb, lo, none⟩) (Nat.lt_of_lt_of_le hlb hS0.out.2.2.2.size)).trans hS0.out.2.1, (hb1.cell (p := ⟨lb, lo + nl, none⟩) (Nat.lt_of_lt_of_le hlb hS0.out.2.2.2.size)).trans hS0.out.2.2.1, hS0.out.2.2.2.trans (hb1.mono hS0.out.2.2.2.size)⟩)
      refine hK.out _ _ hS1.out ?_
      clear hK K
      refine T_take (i := 18) (v := .bool false) rfl (by kernel_rfl) (by kernel_rfl) (by kernel_rfl) (by kernel_rfl) (fun _ _ _ h => h) hS1.out (by kernel_rfl) (fun w' hS' => by obtain ⟨⟨h0, h1⟩, -⟩ := hS'.1.two; obtain ⟨-, h2, h3, -⟩ := hS'; go_simp) ?_
      refine T_take (i := 19) (v := .bool false) rfl (by kernel_rfl) (by kernel_rfl) (by kernel_rfl) (by kernel_rfl) (fun _ _ _ h => h) hS1.out (by kernel_rfl) (fun w' hS' => by obtain ⟨⟨h0, h1⟩, -⟩ := hS'.1.two; obtain ⟨-, h2, h3, -⟩ := hS'; go_simp) ?_
      refine T_take (i := 20) (v := .bool false) rfl (by kernel_rfl) (by kernel_rfl) (by kernel_rfl) (by kernel_rfl) (fun _ _ _ h => h) hS1.out (by kernel_rfl) (fun w' hS' => by obtain ⟨⟨h0, h1⟩, -⟩ := hS'.1.two; obtain ⟨-, h2, h3, -⟩ := hS'; go_simp) ?_
      refine T_take (i := 21) (v := .slice (some ⟨lb, lo, none⟩) n lc) rfl (by kernel_rfl) (by kernel_rfl) (by kernel_rfl) (by kernel_rfl) (fun _ _ _ h => h) hS1.out (by kernel_rfl) (fun w' hS' => by obtain ⟨⟨h0, h1⟩, -⟩ := hS'.1.two; obtain ⟨-, h2, h3, -⟩ := hS'; go_simp) ?_
      refine T_take (i := 22) (v := .slice (some ⟨lb, lo, none⟩) n lc) rfl (by kernel_rfl) (by kernel_rfl) (by kernel_rfl) (by kernel_rfl) (fun _ _ _ h => h) hS1.out (by kernel_rfl) (fun w' hS' => by obtain ⟨⟨h0, h1⟩, -⟩ := hS'.1.two; obtain ⟨-, h2, h3, -⟩ := hS'; go_simp) ?_
      refine T_take (i := 23) (v := .int .i64 n) rfl (by kernel_rfl) (by kernel_rfl) (by kernel_rfl) (by kernel_rfl) (fun _ _ _ h => h) hS1.out (by kernel_rfl) (fun w' hS' => by obtain ⟨⟨h0, h1⟩, -⟩ := hS'.1.two; obtain ⟨-, h2, h3, -⟩ := hS'; go_simp) ?_
      refine T_take (i := 24) (v := .int .i64 nl) rfl (by kernel_rfl) (by kernel_rfl) (by kernel_rfl) (by kernel_rfl) (fun _ _ _ h => h) hS1.out (by kernel_rfl) (fun w' hS' => by obtain ⟨⟨h0, h1⟩, -⟩ := hS'.1.two; obtain ⟨-, h2, h3, -⟩ := hS'; go_simp) ?_
      refine T_take (i := 25) (v := .pointer (some ⟨lb, lo + nl, none⟩)) rfl (by kernel_rfl) (by kernel_rfl) (by kernel_rfl) (by kernel_rfl) (fun _ _ _ h => h) hS1.out (by kernel_rfl) (fun w' hS' => by obtain ⟨⟨h0, h1⟩, -⟩ := hS'.1.two; obtain ⟨-, h2, h3, -⟩ := hS'; go_simp) ?_
      refine T_take (i := 26) (v := r9) rfl (by kernel_rfl) (by kernel_rfl) (by kernel_rfl) (by kernel_rfl) (fun _ _ _ h => h) hS1.out (by kernel_rfl) (fun w' hS' => by obtain ⟨⟨h0, h1⟩, -⟩ := hS'.1.two; obtain ⟨-, h2, h3, -⟩ := hS'; go_simp) ?_
      refine T_take (i := 27) (v := .pointer (some ⟨w1.heap.size, 1, none⟩)) rfl (by kernel_rfl) (by kernel_rfl) (by kernel_rfl) (by kernel_rfl) (fun _ _ _ h => h) hS1.out (by kernel_rfl) (fun w' hS' => by obtain ⟨⟨h0, h1⟩, -⟩ := hS'.1.two; obtain ⟨-, h2, h3, -⟩ := hS'; go_simp) ?_
      refine T_take (i := 28) (v := .slice ta k.2.length tc) rfl (by kernel_rfl) (by kernel_rfl) (by kernel_rfl) (by kernel_rfl) (fun _ _ _ h => h) hS1.out (by kernel_rfl) (fun w' hS' => by obtain ⟨⟨h0, h1⟩, -⟩ := hS'.1.two; obtain ⟨-, h2, h3, -⟩ := hS'; go_simp) ?_
      refine T_step (i := 29) rfl (by kernel_rfl) rfl (by kernel_rfl) ?_
      intro K hK
      go_simp
      refine (same_int k.2 _ _ _ (HS9.out.below hS1.out.2.2.2) (CV_11.out.below hS1.out.2.2.2)).mono ?_
      rintro e' wT2 ⟨rfl, hb2⟩
      have hS2 := Lib.hid (show (fun (w' : World) => Bk w' (w1.heap.size) #[.slice ua k.1.length uc, .slice ta k.2.length tc] 26 ∧ w'.cell? ⟨lb, lo, none⟩ = some r0 ∧ w'.cell? ⟨lb, lo + nl, none⟩ = some r9 ∧ Below V.heap.size V w') wT2 from ⟨hS1.out.1.below hb2, (hb2.cell (p := ⟨lb, lo, none⟩) (Nat.lt_of_lt_of_le hlb hS1.out.2.2.2.size)).trans hS1.out.2.1, (hb2.cell (p := ⟨lb, lo + nl, none⟩) (Nat.lt_of_lt_of_le hlb hS1.out.2.2.2.size)).trans hS1.out.2.2.1, hS1.out.2.2.2.trans (hb2.mono hS1.out.2.2.2.size)⟩)
      refine hK.out _ _ hS2.out ?_
      clear hK K
      refine T_take (i := 30) (v := .bool false) rfl (by kernel_rfl) (by kernel_rfl) (by kernel_rfl) (by kernel_rfl) (fun _ _ _ h => h) hS2.out (by kernel_rfl) (fun w' hS' => by obtain ⟨⟨h0, h1⟩, -⟩ := hS'.1.two; obtain ⟨-, h2, h3, -⟩ := hS'; go_simp) ?_
      refine T_take (i := 31) (v := .bool false) rfl (by kernel_rfl) (by kernel_rfl) (by kernel_rfl) (by kernel_rfl) (fun _ _ _ h => h) hS2.out (by kernel_rfl) (fun w' hS' => by obtain ⟨⟨h0, h1⟩, -⟩ := hS'.1.two; obtain ⟨-, h2, h3, -⟩ := hS'; go_simp) ?_
      refine ⟨by kernel_rfl, ?_⟩
      have PB2 := Lib.hid hS2.out.1
      have BW2 := Lib.hid hS2.out.2.2.2
      clear hS0 hS1 hS2 e0 e9 HS0 HS9 f1 f2 f3 f5 f6
      go_wp2_with fail
      go_loopw [13] (fun s wr => ∃ j : Nat, 1 ≤ j ∧ j ≤ n ∧ s = .int .i64 j ∧ Bk wr (w1.heap.size) #[.slice ua k.1.length uc, .slice ta k.2.length tc] 26 ∧ Below V.heap.size V wr) (fun s _ => n - (RowKit.intOf s).toNat)
      case atStart => exact ⟨1, Nat.le_refl _, by omega, rfl, PB2.out, BW2.out⟩
      case round =>
        obtain ⟨j, hj1, hjn, rfl, hpb, hbr⟩ := hrel
        have PBr := Lib.hid hpb
        have BWr := Lib.hid hbr
        clear hpb hbr
        by_cases hlt : j < n
        · have hLM := HN.out
          obtain ⟨jm, hjm⟩ : ∃ jm, j = jm + 1 := ⟨j - 1, by omega⟩
          have ex := List.getElem?_eq_getElem (l := M) (i := jm) (by omega)
          have ey := List.getElem?_eq_getElem (l := M) (i := j) (by omega)
          have ho : crP (M[jm]'(by omega)) (M[j]'(by omega)) = 1 := by subst hjm; exact HLC.out.one jm (by omega)
          have hx3 := HLC.out.small (M[jm]'(by omega)) (List.getElem_mem _)
          have hy3 := HLC.out.small (M[j]'(by omega)) (List.getElem_mem _)
          have hin := HLC.out.inside (M[j]'(by omega)) (List.getElem_mem _)
          have HTN := Lib.hid (show j + 1 < n → ∃ (z : P2) (t : Int), M[j + 1]? = some z ∧ Cn30 z ∧ RT[jm]? = some t ∧ 2 ≤ t ∧ t ≤ 1800 ∧ addL (rowOf (M[jm]'(by omega))) (rowOf z) = scaleL (rowOf (M[j]'(by omega))) t from fun h2 => by obtain ⟨t, t1, t2, t3, t4⟩ := HLC.out.turn jm (by omega); subst hjm; exact ⟨_, t, List.getElem?_eq_getElem (by omega), HLC.out.small _ (List.getElem_mem _), by rw [HRT.out]; exact t1, t2, t3, t4⟩)
          generalize M[jm]'(by omega) = x at ex ho hx3 HTN
          generalize M[j]'(by omega) = y at ey ho hy3 hin HTN
          obtain ⟨hix, gx⟩ := law_get HRL.out ex
          obtain ⟨hiy, gy⟩ := law_get HRL.out ey
          have RWL := Lib.hid (show Rw V (.slice (some ⟨lb, lo, none⟩) RL.length lc) RL from L_11.out)
          obtain ⟨lb2, lo2, rx, el, _, hcx, hsx⟩ := RWL.out.row jm hix rfl
          simp only [Option.some.injEq, Addr.mk.injEq, and_true] at el
          obtain ⟨rfl, rfl⟩ := el
          rw [gx] at hsx
          obtain ⟨lb2, lo2, ry, el, _, hcy, hsy⟩ := RWL.out.row j hiy rfl
          simp only [Option.some.injEq, Addr.mk.injEq, and_true] at el
          obtain ⟨rfl, rfl⟩ := el
          rw [gy] at hsy
          have HSX := Lib.hid hsx
          have HSY := Lib.hid hsy
          have HCX := Lib.hid hcx
          have HCY := Lib.hid hcy
          have HX3 := Lib.hid hx3
          have HY3 := Lib.hid hy3
          have HONE := Lib.hid ho
          have HIN := Lib.hid hin
          have ax := (BWr.out.cell (p := ⟨lb, lo + jm, none⟩) hlb).trans hcx
          have ay := (BWr.out.cell (p := ⟨lb, lo + j, none⟩) hlb).trans hcy
          have f1 : IntKind.i64.wrap ((j : Int) - 1) = (jm : Int) := by rw [IntWalk.i64_in _ (by omega)]; omega
          have f2 : (0 : Int) ≤ (jm : Int) := by omega
          have f3 : (jm : Int) < (n : Int) := by omega
          have f5 : (0 : Int) ≤ (j : Int) := by omega
          have f6 : (j : Int) < (n : Int) := by omega
          have HJM := Lib.hid hjm
          clear ex ey ho hx3 hy3 hin hix hiy gx gy hcx hcy hsx hsy hjm hLM
          go_wp2_with fail
          refine T_begin (z := fun k => 19 < k) (S := fun (w' : World) => Bk w' (w1.heap.size) #[.slice ua k.1.length uc, .slice ta k.2.length tc] 26 ∧ w'.cell? ⟨lb, lo + jm, none⟩ = some rx ∧ w'.cell? ⟨lb, lo + j, none⟩ = some ry ∧ Below V.heap.size V w') (by kernel_rfl) ?_
          show wpAnyT _ _ _ _ _ _ 20 _ _ _
          have hS0 := Lib.hid (show (fun (w' : World) => Bk w' (w1.heap.size) #[.slice ua k.1.length uc, .slice ta k.2.length tc] 26 ∧ w'.cell? ⟨lb, lo + jm, none⟩ = some rx ∧ w'.cell? ⟨lb, lo + j, none⟩ = some ry ∧ Below V.heap.size V w') (wr.drew) from ⟨PBr.out, ax, ay, BWr.out.drew⟩)
          refine T_take (i := 0) (v := .slice (some ⟨lb, lo, none⟩) n lc) rfl (by kernel_rfl) (by kernel_rfl) (by kernel_rfl) (by kernel_rfl) (fun _ _ _ h => h) hS0.out (by kernel_rfl) (fun w' hS' => by obtain ⟨⟨h0, h1⟩, -⟩ := hS'.1.two; obtain ⟨-, h2, h3, -⟩ := hS'; go_simp) ?_
          refine T_take (i := 1) (v := .int .i64 j) rfl (by kernel_rfl) (by kernel_rfl) (by kernel_rfl) (by kernel_rfl) (fun _ _ _ h => h) hS0.out (by kernel_rfl) (fun w' hS' => by obtain ⟨⟨h0, h1⟩, -⟩ := hS'.1.two; obtain ⟨-, h2, h3, -⟩ := hS'; go_simp) ?_
          refine T_take (i := 2) (v := .int .i64 jm) rfl (by kernel_rfl) (by kernel_rfl) (by kernel_rfl) (by kernel_rfl) (fun _ _ _ h => h) hS0.out (by kernel_rfl) (fun w' hS' => by obtain ⟨⟨h0, h1⟩, -⟩ := hS'.1.two; obtain ⟨-, h2, h3, -⟩ := hS'; go_simp) ?_
          refine T_take (i := 3) (v := .pointer (some ⟨lb, lo + jm, none⟩)) rfl (by kernel_rfl) (by kernel_rfl) (by kernel_rfl) (by kernel_rfl) (fun _ _ _ h => h) hS0.out (by kernel_rfl) (fun w' hS' => by obtain ⟨⟨h0, h1⟩, -⟩ := hS'.1.two; obtain ⟨-, h2, h3, -⟩ := hS'; go_simp) ?_
          refine T_take (i := 4) (v := rx) rfl (by kernel_rfl) (by kernel_rfl) (by kernel_rfl) (by kernel_rfl) (fun _ _ _ h => h) hS0.out (by kernel_rfl) (fun w' hS' => by obtain ⟨⟨h0, h1⟩, -⟩ := hS'.1.two; obtain ⟨-, h2, h3, -⟩ := hS'; go_simp) ?_
          refine T_take (i := 5) (v := .slice (some ⟨lb, lo, none⟩) n lc) rfl (by kernel_rfl) (by kernel_rfl) (by kernel_rfl) (by kernel_rfl) (fun _ _ _ h => h) hS0.out (by kernel_rfl) (fun w' hS' => by obtain ⟨⟨h0, h1⟩, -⟩ := hS'.1.two; obtain ⟨-, h2, h3, -⟩ := hS'; go_simp) ?_
          refine T_take (i := 6) (v := .int .i64 j) rfl (by kernel_rfl) (by kernel_rfl) (by kernel_rfl) (by kernel_rfl) (fun _ _ _ h => h) hS0.out (by kernel_rfl) (fun w' hS' => by obtain ⟨⟨h0, h1⟩, -⟩ := hS'.1.two; obtain ⟨-, h2, h3, -⟩ := hS'; go_simp) ?_
          refine T_take (i := 7) (v := .pointer (some ⟨lb, lo + j, none⟩)) rfl (by kernel_rfl) (by kernel_rfl) (by kernel_rfl) (by kernel_rfl) (fun _ _ _ h => h) hS0.out (by kernel_rfl) (fun w' hS' => by obtain ⟨⟨h0, h1⟩, -⟩ := hS'.1.two; obtain ⟨-, h2, h3, -⟩ := hS'; go_simp) ?_
          refine T_take (i := 8) (v := ry) rfl (by kernel_rfl) (by kernel_rfl) (by kernel_rfl) (by kernel_rfl) (fun _ _ _ h => h) hS0.out (by kernel_rfl) (fun w' hS' => by obtain ⟨⟨h0, h1⟩, -⟩ := hS'.1.two; obtain ⟨-, h2, h3, -⟩ := hS'; go_simp) ?_
          refine T_step (i := 9) rfl (by kernel_rfl) rfl (by kernel_rfl) ?_
          intro K hK
          go_simp
          refine (l_cross x y HX3.out HY3.out _ _ _ (HSX.out.below hS0.out.2.2.2) (HSY.out.below hS0.out.2.2.2)).mono ?_
          rintro e' wT1 ⟨rfl, hb1⟩
          rw [HONE.out]
          have hS1 := Lib.hid (show (fun (w' : World) => Bk w' (w1.heap.size) #[.slice ua k.1.length uc, .slice ta k.2.length tc] 26 ∧ w'.cell? ⟨lb, lo + jm, none⟩ = some rx ∧ w'.cell? ⟨lb, lo + j, none⟩ = some ry ∧ Below V.heap.size V w') wT1 from ⟨hS0.out.1.below hb1, (hb1.cell (p := ⟨lb, lo + jm, none⟩) (Nat.lt_of_lt_of_le hlb hS0.out.2.2.2.size)).trans hS0.out.2.1, (hb1.cell (p := ⟨lb, lo + j, none⟩) (Nat.lt_of_lt_of_le hlb hS0.out.2.2.2.size)).trans hS0.out.2.2.1, hS0.out.2.2.2.trans (hb1.mono hS0.out.2.2.2.size)⟩)
          refine hK.out _ _ hS1.out ?_
          clear hK K
          refine T_take (i := 10) (v := .bool false) rfl (by kernel_rfl) (by kernel_rfl) (by kernel_rfl) (by kernel_rfl) (fun _ _ _ h => h) hS1.out (by kernel_rfl) (fun w' hS' => by obtain ⟨⟨h0, h1⟩, -⟩ := hS'.1.two; obtain ⟨-, h2, h3, -⟩ := hS'; go_simp) ?_
          refine T_take (i := 11) (v := .bool false) rfl (by kernel_rfl) (by kernel_rfl) (by kernel_rfl) (by kernel_rfl) (fun _ _ _ h => h) hS1.out (by kernel_rfl) (fun w' hS' => by obtain ⟨⟨h0, h1⟩, -⟩ := hS'.1.two; obtain ⟨-, h2, h3, -⟩ := hS'; go_simp) ?_
          refine T_take (i := 12) (v := .agg #[.slice ua k.1.length uc, .slice ta k.2.length tc]) rfl (by kernel_rfl) (by kernel_rfl) (by kernel_rfl) (by kernel_rfl) (fun _ _ _ h => h) hS1.out (by kernel_rfl) (fun w' hS' => by obtain ⟨⟨h0, h1⟩, -⟩ := hS'.1.two; obtain ⟨-, h2, h3, -⟩ := hS'; go_simp) ?_
          refine T_take (i := 13) (v := .slice (some ⟨lb, lo, none⟩) n lc) rfl (by kernel_rfl) (by kernel_rfl) (by kernel_rfl) (by kernel_rfl) (fun _ _ _ h => h) hS1.out (by kernel_rfl) (fun w' hS' => by obtain ⟨⟨h0, h1⟩, -⟩ := hS'.1.two; obtain ⟨-, h2, h3, -⟩ := hS'; go_simp) ?_
          refine T_take (i := 14) (v := .int .i64 j) rfl (by kernel_rfl) (by kernel_rfl) (by kernel_rfl) (by kernel_rfl) (fun _ _ _ h => h) hS1.out (by kernel_rfl) (fun w' hS' => by obtain ⟨⟨h0, h1⟩, -⟩ := hS'.1.two; obtain ⟨-, h2, h3, -⟩ := hS'; go_simp) ?_
          refine T_take (i := 15) (v := .pointer (some ⟨lb, lo + j, none⟩)) rfl (by kernel_rfl) (by kernel_rfl) (by kernel_rfl) (by kernel_rfl) (fun _ _ _ h => h) hS1.out (by kernel_rfl) (fun w' hS' => by obtain ⟨⟨h0, h1⟩, -⟩ := hS'.1.two; obtain ⟨-, h2, h3, -⟩ := hS'; go_simp) ?_
          refine T_take (i := 16) (v := ry) rfl (by kernel_rfl) (by kernel_rfl) (by kernel_rfl) (by kernel_rfl) (fun _ _ _ h => h) hS1.out (by kernel_rfl) (fun w' hS' => by obtain ⟨⟨h0, h1⟩, -⟩ := hS'.1.two; obtain ⟨-, h2, h3, -⟩ := hS'; go_simp) ?_
          refine T_step (i := 17) rfl (by kernel_rfl) rfl (by kernel_rfl) ?_
          intro K hK
          go_simp
          refine (i_incone k (rowOf y) _ _ _ (C_11.out.below hS1.out.2.2.2) (HSY.out.below hS1.out.2.2.2)).mono ?_
          rintro e' wT2 ⟨rfl, hb2⟩
          rw [HIN.out]
          have hS2 := Lib.hid (show (fun (w' : World) => Bk w' (w1.heap.size) #[.slice ua k.1.length uc, .slice ta k.2.length tc] 26 ∧ w'.cell? ⟨lb, lo + jm, none⟩ = some rx ∧ w'.cell? ⟨lb, lo + j, none⟩ = some ry ∧ Below V.heap.size V w') wT2 from ⟨hS1.out.1.below hb2, (hb2.cell (p := ⟨lb, lo + jm, none⟩) (Nat.lt_of_lt_of_le hlb hS1.out.2.2.2.size)).trans hS1.out.2.1, (hb2.cell (p := ⟨lb, lo + j, none⟩) (Nat.lt_of_lt_of_le hlb hS1.out.2.2.2.size)).trans hS1.out.2.2.1, hS1.out.2.2.2.trans (hb2.mono hS1.out.2.2.2.size)⟩)
          refine hK.out _ _ hS2.out ?_
          clear hK K
          refine T_take (i := 18) (v := .bool false) rfl (by kernel_rfl) (by kernel_rfl) (by kernel_rfl) (by kernel_rfl) (fun _ _ _ h => h) hS2.out (by kernel_rfl) (fun w' hS' => by obtain ⟨⟨h0, h1⟩, -⟩ := hS'.1.two; obtain ⟨-, h2, h3, -⟩ := hS'; go_simp) ?_
          refine T_take (i := 19) (v := .bool false) rfl (by kernel_rfl) (by kernel_rfl) (by kernel_rfl) (by kernel_rfl) (fun _ _ _ h => h) hS2.out (by kernel_rfl) (fun w' hS' => by obtain ⟨⟨h0, h1⟩, -⟩ := hS'.1.two; obtain ⟨-, h2, h3, -⟩ := hS'; go_simp) ?_
          refine ⟨by kernel_rfl, ?_⟩
          have PB3 := Lib.hid hS2.out.1
          have BW3 := Lib.hid hS2.out.2.2.2
          have ax := hS2.out.2.1
          have ay := hS2.out.2.2.1
          clear hS0 hS1 hS2
          obtain ⟨jp, hjp⟩ : ∃ jp, jp = j + 1 := ⟨_, rfl⟩
          have f7 : IntKind.i64.wrap ((j : Int) + 1) = (jp : Int) := by rw [IntWalk.i64_in _ (by omega)]; omega
          have HJP := Lib.hid hjp
          obtain ⟨W3, hW3⟩ : ∃ W3, wT2 = W3 := ⟨_, rfl⟩
          subst hW3
          by_cases h2 : jp < n
          · have htn := HTN.out (by omega)
            obtain ⟨z, t, ez, hz3, et, t2, t3, hadd⟩ := htn
            rw [← hjp] at ez
            obtain ⟨hiz, gz⟩ := law_get HRL.out ez
            obtain ⟨lb2, lo2, rz, el, _, hcz, hsz⟩ := RWL.out.row jp hiz rfl
            simp only [Option.some.injEq, Addr.mk.injEq, and_true] at el
            obtain ⟨rfl, rfl⟩ := el
            rw [gz] at hsz
            obtain ⟨ta9, td9, e9, _, hto⟩ := T_11.out.shape
            simp only [Value.slice.injEq] at e9
            obtain ⟨rfl, -, rfl⟩ := e9
            obtain ⟨tbb, tbo, rfl, _, htl, htx⟩ := hto (by rw [intVals_len]; have := lt_of_get et; omega)
            have hct := htx jm (.int .i64 t) (by unfold intVals; rw [List.getElem?_map, et]; rfl)
            have HSZ := Lib.hid hsz
            have HZ3 := Lib.hid hz3
            have HADD := Lib.hid hadd
            have az := (BW3.out.cell (p := ⟨lb, lo + jp, none⟩) hlb).trans hcz
            have at9 := (BW3.out.cell (p := ⟨tbb, tbo + jm, none⟩) htl).trans hct
            have g1 : (jp : Int) < (n : Int) := by omega
            have g2 : (0 : Int) ≤ (jp : Int) := by omega
            have g3 : (jm : Int) < (m : Int) := by have := HNL.out.2; have := HJM.out; omega
            have g4 : ¬ t < 2 := by omega
            clear ez hz3 et hadd hiz gz hcz hsz hto htx hct hjp
            go_wp2_with fail
            refine T_begin (z := fun k => 37 < k) (S := fun (w' : World) => w'.cell? ⟨lb, lo + jm, none⟩ = some rx ∧ w'.cell? ⟨lb, lo + j, none⟩ = some ry ∧ w'.cell? ⟨lb, lo + jp, none⟩ = some rz ∧ w'.cell? ⟨tbb, tbo + jm, none⟩ = some (.int .i64 t) ∧ Bk w' (w1.heap.size) #[.slice ua k.1.length uc, .slice ta k.2.length tc] 26 ∧ Below V.heap.size V w') (by kernel_rfl) ?_
            show wpAnyT _ _ _ _ _ _ 38 _ _ _
            have hS0 := Lib.hid (show (fun (w' : World) => w'.cell? ⟨lb, lo + jm, none⟩ = some rx ∧ w'.cell? ⟨lb, lo + j, none⟩ = some ry ∧ w'.cell? ⟨lb, lo + jp, none⟩ = some rz ∧ w'.cell? ⟨tbb, tbo + jm, none⟩ = some (.int .i64 t) ∧ Bk w' (w1.heap.size) #[.slice ua k.1.length uc, .slice ta k.2.length tc] 26 ∧ Below V.heap.size V w') (wT2.drew) from ⟨ax, ay, az, at9, PB3.out, BW3.out.drew⟩)
            refine T_take (i := 0) (v := .int .i64 j) rfl (by kernel_rfl) (by kernel_rfl) (by kernel_rfl) (by kernel_rfl) (fun _ _ _ h => h) hS0.out (by kernel_rfl) (fun w' hS' => by obtain ⟨h0, h1, h2, h3, -⟩ := hS'; go_simp) ?_
            refine T_take (i := 1) (v := .int .i64 jp) rfl (by kernel_rfl) (by kernel_rfl) (by kernel_rfl) (by kernel_rfl) (fun _ _ _ h => h) hS0.out (by kernel_rfl) (fun w' hS' => by obtain ⟨h0, h1, h2, h3, -⟩ := hS'; go_simp) ?_
            refine T_take (i := 2) (v := .slice (some ⟨lb, lo, none⟩) n lc) rfl (by kernel_rfl) (by kernel_rfl) (by kernel_rfl) (by kernel_rfl) (fun _ _ _ h => h) hS0.out (by kernel_rfl) (fun w' hS' => by obtain ⟨h0, h1, h2, h3, -⟩ := hS'; go_simp) ?_
            refine T_take (i := 3) (v := .int .i64 n) rfl (by kernel_rfl) (by kernel_rfl) (by kernel_rfl) (by kernel_rfl) (fun _ _ _ h => h) hS0.out (by kernel_rfl) (fun w' hS' => by obtain ⟨h0, h1, h2, h3, -⟩ := hS'; go_simp) ?_
            refine T_take (i := 4) (v := .bool true) rfl (by kernel_rfl) (by kernel_rfl) (by kernel_rfl) (by kernel_rfl) (fun _ _ _ h => h) hS0.out (by kernel_rfl) (fun w' hS' => by obtain ⟨h0, h1, h2, h3, -⟩ := hS'; go_simp) ?_
            refine T_take (i := 5) (v := .bool true) rfl (by kernel_rfl) (by kernel_rfl) (by kernel_rfl) (by kernel_rfl) (fun _ _ _ h => h) hS0.out (by kernel_rfl) (fun w' hS' => by obtain ⟨h0, h1, h2, h3, -⟩ := hS'; go_simp) ?_
            refine T_take (i := 6) (v := .slice (some ⟨tbb, tbo, none⟩) m td) rfl (by kernel_rfl) (by kernel_rfl) (by kernel_rfl) (by kernel_rfl) (fun _ _ _ h => h) hS0.out (by kernel_rfl) (fun w' hS' => by obtain ⟨h0, h1, h2, h3, -⟩ := hS'; go_simp) ?_
            refine T_take (i := 7) (v := .int .i64 j) rfl (by kernel_rfl) (by kernel_rfl) (by kernel_rfl) (by kernel_rfl) (fun _ _ _ h => h) hS0.out (by kernel_rfl) (fun w' hS' => by obtain ⟨h0, h1, h2, h3, -⟩ := hS'; go_simp) ?_
            refine T_take (i := 8) (v := .int .i64 jm) rfl (by kernel_rfl) (by kernel_rfl) (by kernel_rfl) (by kernel_rfl) (fun _ _ _ h => h) hS0.out (by kernel_rfl) (fun w' hS' => by obtain ⟨h0, h1, h2, h3, -⟩ := hS'; go_simp) ?_
            refine T_take (i := 9) (v := .pointer (some ⟨tbb, tbo + jm, none⟩)) rfl (by kernel_rfl) (by kernel_rfl) (by kernel_rfl) (by kernel_rfl) (fun _ _ _ h => h) hS0.out (by kernel_rfl) (fun w' hS' => by obtain ⟨h0, h1, h2, h3, -⟩ := hS'; go_simp) ?_
            refine T_take (i := 10) (v := .int .i64 t) rfl (by kernel_rfl) (by kernel_rfl) (by kernel_rfl) (by kernel_rfl) (fun _ _ _ h => h) hS0.out (by kernel_rfl) (fun w' hS' => by obtain ⟨h0, h1, h2, h3, -⟩ := hS'; go_simp) ?_
            refine T_take (i := 11) (v := .bool false) rfl (by kernel_rfl) (by kernel_rfl) (by kernel_rfl) (by kernel_rfl) (fun _ _ _ h => h) hS0.out (by kernel_rfl) (fun w' hS' => by obtain ⟨h0, h1, h2, h3, -⟩ := hS'; go_simp) ?_
            refine T_take (i := 12) (v := .bool false) rfl (by kernel_rfl) (by kernel_rfl) (by kernel_rfl) (by kernel_rfl) (fun _ _ _ h => h) hS0.out (by kernel_rfl) (fun w' hS' => by obtain ⟨h0, h1, h2, h3, -⟩ := hS'; go_simp) ?_
            refine T_take (i := 13) (v := .slice (some ⟨lb, lo, none⟩) n lc) rfl (by kernel_rfl) (by kernel_rfl) (by kernel_rfl) (by kernel_rfl) (fun _ _ _ h => h) hS0.out (by kernel_rfl) (fun w' hS' => by obtain ⟨h0, h1, h2, h3, -⟩ := hS'; go_simp) ?_
            refine T_take (i := 14) (v := .int .i64 j) rfl (by kernel_rfl) (by kernel_rfl) (by kernel_rfl) (by kernel_rfl) (fun _ _ _ h => h) hS0.out (by kernel_rfl) (fun w' hS' => by obtain ⟨h0, h1, h2, h3, -⟩ := hS'; go_simp) ?_
            refine T_take (i := 15) (v := .int .i64 jm) rfl (by kernel_rfl) (by kernel_rfl) (by kernel_rfl) (by kernel_rfl) (fun _ _ _ h => h) hS0.out (by kernel_rfl) (fun w' hS' => by obtain ⟨h0, h1, h2, h3, -⟩ := hS'; go_simp) ?_
            refine T_take (i := 16) (v := .pointer (some ⟨lb, lo + jm, none⟩)) rfl (by kernel_rfl) (by kernel_rfl) (by kernel_rfl) (by kernel_rfl) (fun _ _ _ h => h) hS0.out (by kernel_rfl) (fun w' hS' => by obtain ⟨h0, h1, h2, h3, -⟩ := hS'; go_simp) ?_
            refine T_take (i := 17) (v := rx) rfl (by kernel_rfl) (by kernel_rfl) (by kernel_rfl) (by kernel_rfl) (fun _ _ _ h => h) hS0.out (by kernel_rfl) (fun w' hS' => by obtain ⟨h0, h1, h2, h3, -⟩ := hS'; go_simp) ?_
            refine T_take (i := 18) (v := .slice (some ⟨lb, lo, none⟩) n lc) rfl (by kernel_rfl) (by kernel_rfl) (by kernel_rfl) (by kernel_rfl) (fun _ _ _ h => h) hS0.out (by kernel_rfl) (fun w' hS' => by obtain ⟨h0, h1, h2, h3, -⟩ := hS'; go_simp) ?_
            refine T_take (i := 19) (v := .int .i64 j) rfl (by kernel_rfl) (by kernel_rfl) (by kernel_rfl) (by kernel_rfl) (fun _ _ _ h => h) hS0.out (by kernel_rfl) (fun w' hS' => by obtain ⟨h0, h1, h2, h3, -⟩ := hS'; go_simp) ?_
            refine T_take (i := 20) (v := .int .i64 jp) rfl (by kernel_rfl) (by kernel_rfl) (by kernel_rfl) (by kernel_rfl) (fun _ _ _ h => h) hS0.out (by kernel_rfl) (fun w' hS' => by obtain ⟨h0, h1, h2, h3, -⟩ := hS'; go_simp) ?_
            refine T_take (i := 21) (v := .pointer (some ⟨lb, lo + jp, none⟩)) rfl (by kernel_rfl) (by kernel_rfl) (by kernel_rfl) (by kernel_rfl) (fun _ _ _ h => h) hS0.out (by kernel_rfl) (fun w' hS' => by obtain ⟨h0, h1, h2, h3, -⟩ := hS'; go_simp) ?_
            refine T_take (i := 22) (v := rz) rfl (by kernel_rfl) (by kernel_rfl) (by kernel_rfl) (by kernel_rfl) (fun _ _ _ h => h) hS0.out (by kernel_rfl) (fun w' hS' => by obtain ⟨h0, h1, h2, h3, -⟩ := hS'; go_simp) ?_
            refine T_take (i := 24) (v := .slice (some ⟨lb, lo, none⟩) n lc) rfl (by kernel_rfl) (by kernel_rfl) (by kernel_rfl) (by kernel_rfl) (fun _ _ _ h => h) hS0.out (by kernel_rfl) (fun w' hS' => by obtain ⟨h0, h1, h2, h3, -⟩ := hS'; go_simp) ?_
            refine T_take (i := 25) (v := .int .i64 j) rfl (by kernel_rfl) (by kernel_rfl) (by kernel_rfl) (by kernel_rfl) (fun _ _ _ h => h) hS0.out (by kernel_rfl) (fun w' hS' => by obtain ⟨h0, h1, h2, h3, -⟩ := hS'; go_simp) ?_
            refine T_take (i := 26) (v := .pointer (some ⟨lb, lo + j, none⟩)) rfl (by kernel_rfl) (by kernel_rfl) (by kernel_rfl) (by kernel_rfl) (fun _ _ _ h => h) hS0.out (by kernel_rfl) (fun w' hS' => by obtain ⟨h0, h1, h2, h3, -⟩ := hS'; go_simp) ?_
            refine T_take (i := 27) (v := ry) rfl (by kernel_rfl) (by kernel_rfl) (by kernel_rfl) (by kernel_rfl) (fun _ _ _ h => h) hS0.out (by kernel_rfl) (fun w' hS' => by obtain ⟨h0, h1, h2, h3, -⟩ := hS'; go_simp) ?_
            refine T_take (i := 28) (v := .slice (some ⟨tbb, tbo, none⟩) m td) rfl (by kernel_rfl) (by kernel_rfl) (by kernel_rfl) (by kernel_rfl) (fun _ _ _ h => h) hS0.out (by kernel_rfl) (fun w' hS' => by obtain ⟨h0, h1, h2, h3, -⟩ := hS'; go_simp) ?_
            refine T_take (i := 29) (v := .int .i64 j) rfl (by kernel_rfl) (by kernel_rfl) (by kernel_rfl) (by kernel_rfl) (fun _ _ _ h => h) hS0.out (by kernel_rfl) (fun w' hS' => by obtain ⟨h0, h1, h2, h3, -⟩ := hS'; go_simp) ?_
            refine T_take (i := 30) (v := .int .i64 jm) rfl (by kernel_rfl) (by kernel_rfl) (by kernel_rfl) (by kernel_rfl) (fun _ _ _ h => h) hS0.out (by kernel_rfl) (fun w' hS' => by obtain ⟨h0, h1, h2, h3, -⟩ := hS'; go_simp) ?_
            refine T_take (i := 31) (v := .pointer (some ⟨tbb, tbo + jm, none⟩)) rfl (by kernel_rfl) (by kernel_rfl) (by kernel_rfl) (by kernel_rfl) (fun _ _ _ h => h) hS0.out (by kernel_rfl) (fun w' hS' => by obtain ⟨h0, h1, h2, h3, -⟩ := hS'; go_simp) ?_
            refine T_take (i := 32) (v := .int .i64 t) rfl (by kernel_rfl) (by kernel_rfl) (by kernel_rfl) (by kernel_rfl) (fun _ _ _ h => h) hS0.out (by kernel_rfl) (fun w' hS' => by obtain ⟨h0, h1, h2, h3, -⟩ := hS'; go_simp) ?_
            refine T_step (i := 23) rfl (by kernel_rfl) rfl (by kernel_rfl) ?_
            intro K hK
            go_simp
            refine (l_plus (rowOf x) (rowOf z) rfl (by simp [rowOf]) 30 (by omega) (bd30 HX3.out) (bd30 HZ3.out) _ _ _ (HSX.out.below hS0.out.2.2.2.2.2) (HSZ.out.below hS0.out.2.2.2.2.2)).mono ?_
            rintro e' wU1 ⟨⟨pv, rfl, hpv⟩, hb1⟩
            have HPV := Lib.hid hpv
            clear hpv
            have hS1 := Lib.hid (show (fun (w' : World) => w'.cell? ⟨lb, lo + jm, none⟩ = some rx ∧ w'.cell? ⟨lb, lo + j, none⟩ = some ry ∧ w'.cell? ⟨lb, lo + jp, none⟩ = some rz ∧ w'.cell? ⟨tbb, tbo + jm, none⟩ = some (.int .i64 t) ∧ Bk w' (w1.heap.size) #[.slice ua k.1.length uc, .slice ta k.2.length tc] 26 ∧ Below V.heap.size V w') wU1 from ⟨(hb1.cell (p := ⟨lb, lo + jm, none⟩) (Nat.lt_of_lt_of_le hlb hS0.out.2.2.2.2.2.size)).trans hS0.out.1, (hb1.cell (p := ⟨lb, lo + j, none⟩) (Nat.lt_of_lt_of_le hlb hS0.out.2.2.2.2.2.size)).trans hS0.out.2.1, (hb1.cell (p := ⟨lb, lo + jp, none⟩) (Nat.lt_of_lt_of_le hlb hS0.out.2.2.2.2.2.size)).trans hS0.out.2.2.1, (hb1.cell (p := ⟨tbb, tbo + jm, none⟩) (Nat.lt_of_lt_of_le htl hS0.out.2.2.2.2.2.size)).trans hS0.out.2.2.2.1, hS0.out.2.2.2.2.1.below hb1, hS0.out.2.2.2.2.2.trans (hb1.mono hS0.out.2.2.2.2.2.size)⟩)
            refine hK.out _ _ hS1.out ?_
            clear hK K
            refine T_step (i := 33) rfl (by kernel_rfl) rfl (by kernel_rfl) ?_
            intro K hK
            go_simp
            refine (l_scaled (rowOf y) (by simp [rowOf]) 30 1800 t (bd30 HY3.out) (by omega) (by omega) (by omega) _ _ (HSY.out.below hS1.out.2.2.2.2.2)).mono ?_
            rintro e' wU2 ⟨⟨sv, rfl, hsv⟩, hb2⟩
            have HPV2 := Lib.hid (HPV.out.below hb2)
            rw [← HADD.out] at hsv
            have HSV := Lib.hid hsv
            clear hsv
            have hS2 := Lib.hid (show (fun (w' : World) => w'.cell? ⟨lb, lo + jm, none⟩ = some rx ∧ w'.cell? ⟨lb, lo + j, none⟩ = some ry ∧ w'.cell? ⟨lb, lo + jp, none⟩ = some rz ∧ w'.cell? ⟨tbb, tbo + jm, none⟩ = some (.int .i64 t) ∧ Bk w' (w1.heap.size) #[.slice ua k.1.length uc, .slice ta k.2.length tc] 26 ∧ Below V.heap.size V w') wU2 from ⟨(hb2.cell (p := ⟨lb, lo + jm, none⟩) (Nat.lt_of_lt_of_le hlb hS1.out.2.2.2.2.2.size)).trans hS1.out.1, (hb2.cell (p := ⟨lb, lo + j, none⟩) (Nat.lt_of_lt_of_le hlb hS1.out.2.2.2.2.2.size)).trans hS1.out.2.1, (hb2.cell (p := ⟨lb, lo + jp, none⟩) (Nat.lt_of_lt_of_le hlb hS1.out.2.2.2.2.2.size)).trans hS1.out.2.2.1, (hb2.cell (p := ⟨tbb, tbo + jm, none⟩) (Nat.lt_of_lt_of_le htl hS1.out.2.2.2.2.2.size)).trans hS1.out.2.2.2.1, hS1.out.2.2.2.2.1.below hb2, hS1.out.2.2.2.2.2.trans (hb2.mono hS1.out.2.2.2.2.2.size)⟩)
            refine hK.out _ _ hS2.out ?_
            clear hK K
            refine T_step (i := 34) rfl (by kernel_rfl) rfl (by kernel_rfl) ?_
            intro K hK
            go_simp
            refine (same_int (addL (rowOf x) (rowOf z)) _ _ _ HPV2.out.sl HSV.out.sl).mono ?_
            rintro e' wU3 ⟨rfl, hb3⟩
            have hS3 := Lib.hid (show (fun (w' : World) => w'.cell? ⟨lb, lo + jm, none⟩ = some rx ∧ w'.cell? ⟨lb, lo + j, none⟩ = some ry ∧ w'.cell? ⟨lb, lo + jp, none⟩ = some rz ∧ w'.cell? ⟨tbb, tbo + jm, none⟩ = some (.int .i64 t) ∧ Bk w' (w1.heap.size) #[.slice ua k.1.length uc, .slice ta k.2.length tc] 26 ∧ Below V.heap.size V w') wU3 from ⟨(hb3.cell (p := ⟨lb, lo + jm, none⟩) (Nat.lt_of_lt_of_le hlb hS2.out.2.2.2.2.2.size)).trans hS2.out.1, (hb3.cell (p := ⟨lb, lo + j, none⟩) (Nat.lt_of_lt_of_le hlb hS2.out.2.2.2.2.2.size)).trans hS2.out.2.1, (hb3.cell (p := ⟨lb, lo + jp, none⟩) (Nat.lt_of_lt_of_le hlb hS2.out.2.2.2.2.2.size)).trans hS2.out.2.2.1, (hb3.cell (p := ⟨tbb, tbo + jm, none⟩) (Nat.lt_of_lt_of_le htl hS2.out.2.2.2.2.2.size)).trans hS2.out.2.2.2.1, hS2.out.2.2.2.2.1.below hb3, hS2.out.2.2.2.2.2.trans (hb3.mono hS2.out.2.2.2.2.2.size)⟩)
            refine hK.out _ _ hS3.out ?_
            clear hK K
            refine T_take (i := 35) (v := .bool false) rfl (by kernel_rfl) (by kernel_rfl) (by kernel_rfl) (by kernel_rfl) (fun _ _ _ h => h) hS3.out (by kernel_rfl) (fun w' hS' => by obtain ⟨h0, h1, h2, h3, -⟩ := hS'; go_simp) ?_
            refine T_take (i := 36) (v := .bool false) rfl (by kernel_rfl) (by kernel_rfl) (by kernel_rfl) (by kernel_rfl) (fun _ _ _ h => h) hS3.out (by kernel_rfl) (fun w' hS' => by obtain ⟨h0, h1, h2, h3, -⟩ := hS'; go_simp) ?_
            refine T_take (i := 37) (v := .bool false) rfl (by kernel_rfl) (by kernel_rfl) (by kernel_rfl) (by kernel_rfl) (fun _ _ _ h => h) hS3.out (by kernel_rfl) (fun w' hS' => by obtain ⟨h0, h1, h2, h3, -⟩ := hS'; go_simp) ?_
            refine ⟨by kernel_rfl, ?_⟩
            have PB4 := Lib.hid hS3.out.2.2.2.2.1
            have BW4 := Lib.hid hS3.out.2.2.2.2.2
            clear hS0 hS1 hS2 hS3 ax ay az at9
            go_wp2_with fail
            exact ⟨⟨jp, by have := HJP.out; omega, by omega, rfl, PB4.out, BW4.out⟩, by have := HJP.out; simp [RowKit.intOf]; omega⟩
          · have g1 : ¬ (jp : Int) < (n : Int) := by omega
            clear hjp
            have g9 : decide ((jp : Int) < (n : Int)) = false := decide_eq_false g1
            clear HTN RWL ax ay
            go_wp2_with fail
            go_quiet (fail)
            have PB4 := Lib.hid (show Bk (wT2.drewN nq) (w1.heap.size) #[.slice ua k.1.length uc, .slice ta k.2.length tc] 26 from PB3.out)
            have BW4 := Lib.hid (below_drewN' BW3.out nq)
            go_wp2_with fail
            exact ⟨⟨jp, by have := HJP.out; omega, by have := HJP.out; omega, rfl, PB4.out, BW4.out⟩, by have := HJP.out; simp [RowKit.intOf]; omega⟩
        · have f9 : ¬ (j : Int) < (n : Int) := by omega
          go_wp2
          go_ret
          exact ⟨rfl, BV.out.trans (BWr.out.mono BV.out.size)⟩
  | true =>
    have CB := Lib.hid (fun v W (h : Cv W v DC) => i_cturns DC v W h)
    rw [LB.out rfl] at CB
    go_wp2_with fail
    refine (CB.out _ _ (D_11.out.below BW.out)).mono ?_
    rintro e v1 ⟨⟨tv3, rfl, ht3⟩, hbx⟩
    obtain ⟨t3b, t3d, rfl, _⟩ := ht3.shape1
    rw [intVals_len] at ht3 ⊢
    have HT3 := Lib.hid ht3.sl
    have PBx := Lib.hid (PB.out.below hbx)
    have BWx := Lib.hid (BW.out.trans (hbx.mono BW.out.size))
    clear PB BW hbx ht3 l0 l1 m0 m1
    go_wp2_with fail
    refine (same_int ys _ _ _ HT3.out (Y_11.out.below BWx.out)).mono ?_
    rintro e v2 ⟨rfl, hby⟩
    have PB := Lib.hid (PBx.out.below hby)
    have BW := Lib.hid (BWx.out.trans (hby.mono BWx.out.size))
    clear PBx BWx hby
    obtain ⟨⟨l0, l1⟩, -⟩ := PB.out.two
    go_wp2_with fail
    refine (CK2.out _ _ (C_11.out.below BW.out)).mono ?_
    rintro e q1 ⟨rfl, hbq⟩
    have PB1 := Lib.hid (PB.out.below hbq)
    have BW1 := Lib.hid (BW.out.trans (hbq.mono BW.out.size))
    clear hbq l0 l1
    cases qc with
    | false =>
      have r0 : RL = [] := ERL.out.symm.trans (law_no Eqc.out).1
      have r1 : RT = [] := ERT.out.symm.trans (law_no Eqc.out).2
      subst r0
      subst r1
      go_wp2_with fail
      go_ret
      exact ⟨rfl, BV.out.trans (BW1.out.mono BV.out.size)⟩
    | true =>
      obtain ⟨M, LC⟩ := law_of Eqc.out
      have HLC := Lib.hid LC
      have HRL := Lib.hid (ERL.out.symm.trans LC.rows)
      have hRT : RT = turnsP M := ERT.out.symm.trans LC.turns
      have hn2 := LC.two
      have hnL := LC.len
      have lenL : RL.length = M.length := by rw [HRL.out, List.length_map]
      obtain ⟨h0, g0⟩ := law_get HRL.out LC.head
      obtain ⟨h9, g9⟩ := law_get HRL.out LC.last
      rw [LC.c1] at g0
      rw [LC.c2] at g9
      obtain ⟨lb, lo, r0, el, hlb, hc0, hs0⟩ := L_11.out.row 0 h0 rfl
      subst el
      rw [g0] at hs0
      obtain ⟨lb2, lo2, r9, el, _, hc9, hs9⟩ := L_11.out.row (M.length - 1) h9 rfl
      simp only [Option.some.injEq, Addr.mk.injEq, and_true] at el
      obtain ⟨rfl, rfl⟩ := el
      rw [g9] at hs9
      simp only [Nat.add_zero] at hc0
      have HS0 := Lib.hid hs0
      have HS9 := Lib.hid hs9
      obtain ⟨n, hn⟩ : ∃ n, M.length = n := ⟨_, rfl⟩
      obtain ⟨nl, hnl⟩ : ∃ nl, n = nl + 1 := ⟨n - 1, by omega⟩
      obtain ⟨m, hm⟩ : ∃ m, n = m + 2 := ⟨n - 2, by omega⟩
      have lenT : RT.length = m := by rw [hRT, turnsP_len, hn]; omega
      rw [hn] at lenL hn2 hnL
      rw [show M.length - 1 = nl by omega] at hc9
      have HN := Lib.hid hn
      have HNL := Lib.hid (And.intro hnl hm)
      have HRT := Lib.hid hRT
      have HLL := Lib.hid lenL
      rw [lenL, lenT]
      have f1 : ¬ (n : Int) < 2 := by omega
      have f2 : IntKind.i64.wrap ((n : Int) - 2) = (m : Int) := by rw [IntWalk.i64_in _ (by omega)]; omega
      have f3 : IntKind.i64.wrap ((n : Int) - 1) = (nl : Int) := by rw [IntWalk.i64_in _ (by omega)]; omega
      have f4 : (0 : Int) < (n : Int) := by omega
      have f5 : (nl : Int) < (n : Int) := by omega
      have f6 : (0 : Int) ≤ (nl : Int) := by omega
      have e0 := (BW1.out.cell (p := ⟨lb, lo, none⟩) hlb).trans hc0
      have e9 := (BW1.out.cell (p := ⟨lb, lo + nl, none⟩) hlb).trans hc9
      clear hc0 hc9 hs0 hs9 g0 g9 h0 h9 hn hnl hm hRT lenL lenT LC
      go_wp2_with fail
      refine T_begin (z := fun k => 31 < k) (S := fun (w' : World) => Bk w' (w1.heap.size) #[.slice ua k.1.length uc, .slice ta k.2.length tc] 26 ∧ w'.cell? ⟨lb, lo, none⟩ = some r0 ∧ w'.cell? ⟨lb, lo + nl, none⟩ = some r9 ∧ Below V.heap.size V w') (by kernel_rfl) ?_
      show wpAnyT _ _ _ _ _ _ 32 _ _ _
      have hS0 := Lib.hid (show (fun (w' : World) => Bk w' (w1.heap.size) #[.slice ua k.1.length uc, .slice ta k.2.length tc] 26 ∧ w'.cell? ⟨lb, lo, none⟩ = some r0 ∧ w'.cell? ⟨lb, lo + nl, none⟩ = some r9 ∧ Below V.heap.size V w') (q1.drew) from ⟨PB1.out, e0, e9, BW1.out.drew⟩)
      refine T_take (i := 0) (v := .slice (some ⟨lb, lo, none⟩) n lc) rfl (by kernel_rfl) (by kernel_rfl) (by kernel_rfl) (by kernel_rfl) (fun _ _ _ h => h) hS0.out (by kernel_rfl) (fun w' hS' => by obtain ⟨⟨h0, h1⟩, -⟩ := hS'.1.two; obtain ⟨-, h2, h3, -⟩ := hS'; go_simp) ?_
      refine T_take (i := 1) (v := .int .i64 n) rfl (by kernel_rfl) (by kernel_rfl) (by kernel_rfl) (by kernel_rfl) (fun _ _ _ h => h) hS0.out (by kernel_rfl) (fun w' hS' => by obtain ⟨⟨h0, h1⟩, -⟩ := hS'.1.two; obtain ⟨-, h2, h3, -⟩ := hS'; go_simp) ?_
      refine T_take (i := 2) (v := .bool false) rfl (by kernel_rfl) (by kernel_rfl) (by kernel_rfl) (by kernel_rfl) (fun _ _ _ h => h) hS0.out (by kernel_rfl) (fun w' hS' => by obtain ⟨⟨h0, h1⟩, -⟩ := hS'.1.two; obtain ⟨-, h2, h3, -⟩ := hS'; go_simp) ?_
      refine T_take (i := 3) (v := .bool false) rfl (by kernel_rfl) (by kernel_rfl) (by kernel_rfl) (by kernel_rfl) (fun _ _ _ h => h) hS0.out (by kernel_rfl) (fun w' hS' => by obtain ⟨⟨h0, h1⟩, -⟩ := hS'.1.two; obtain ⟨-, h2, h3, -⟩ := hS'; go_simp) ?_
      refine T_take (i := 4) (v := .slice tb m td) rfl (by kernel_rfl) (by kernel_rfl) (by kernel_rfl) (by kernel_rfl) (fun _ _ _ h => h) hS0.out (by kernel_rfl) (fun w' hS' => by obtain ⟨⟨h0, h1⟩, -⟩ := hS'.1.two; obtain ⟨-, h2, h3, -⟩ := hS'; go_simp) ?_
      refine T_take (i := 5) (v := .int .i64 m) rfl (by kernel_rfl) (by kernel_rfl) (by kernel_rfl) (by kernel_rfl) (fun _ _ _ h => h) hS0.out (by kernel_rfl) (fun w' hS' => by obtain ⟨⟨h0, h1⟩, -⟩ := hS'.1.two; obtain ⟨-, h2, h3, -⟩ := hS'; go_simp) ?_
      refine T_take (i := 6) (v := .slice (some ⟨lb, lo, none⟩) n lc) rfl (by kernel_rfl) (by kernel_rfl) (by kernel_rfl) (by kernel_rfl) (fun _ _ _ h => h) hS0.out (by kernel_rfl) (fun w' hS' => by obtain ⟨⟨h0, h1⟩, -⟩ := hS'.1.two; obtain ⟨-, h2, h3, -⟩ := hS'; go_simp) ?_
      refine T_take (i := 7) (v := .int .i64 n) rfl (by kernel_rfl) (by kernel_rfl) (by kernel_rfl) (by kernel_rfl) (fun _ _ _ h => h) hS0.out (by kernel_rfl) (fun w' hS' => by obtain ⟨⟨h0, h1⟩, -⟩ := hS'.1.two; obtain ⟨-, h2, h3, -⟩ := hS'; go_simp) ?_
      refine T_take (i := 8) (v := .int .i64 m) rfl (by kernel_rfl) (by kernel_rfl) (by kernel_rfl) (by kernel_rfl) (fun _ _ _ h => h) hS0.out (by kernel_rfl) (fun w' hS' => by obtain ⟨⟨h0, h1⟩, -⟩ := hS'.1.two; obtain ⟨-, h2, h3, -⟩ := hS'; go_simp) ?_
      refine T_take (i := 9) (v := .bool false) rfl (by kernel_rfl) (by kernel_rfl) (by kernel_rfl) (by kernel_rfl) (fun _ _ _ h => h) hS0.out (by kernel_rfl) (fun w' hS' => by obtain ⟨⟨h0, h1⟩, -⟩ := hS'.1.two; obtain ⟨-, h2, h3, -⟩ := hS'; go_simp) ?_
      refine T_take (i := 10) (v := .bool false) rfl (by kernel_rfl) (by kernel_rfl) (by kernel_rfl) (by kernel_rfl) (fun _ _ _ h => h) hS0.out (by kernel_rfl) (fun w' hS' => by obtain ⟨⟨h0, h1⟩, -⟩ := hS'.1.two; obtain ⟨-, h2, h3, -⟩ := hS'; go_simp) ?_
      refine T_take (i := 11) (v := .bool false) rfl (by kernel_rfl) (by kernel_rfl) (by kernel_rfl) (by kernel_rfl) (fun _ _ _ h => h) hS0.out (by kernel_rfl) (fun w' hS' => by obtain ⟨⟨h0, h1⟩, -⟩ := hS'.1.two; obtain ⟨-, h2, h3, -⟩ := hS'; go_simp) ?_
      refine T_take (i := 12) (v := .slice (some ⟨lb, lo, none⟩) n lc) rfl (by kernel_rfl) (by kernel_rfl) (by kernel_rfl) (by kernel_rfl) (fun _ _ _ h => h) hS0.out (by kernel_rfl) (fun w' hS' => by obtain ⟨⟨h0, h1⟩, -⟩ := hS'.1.two; obtain ⟨-, h2, h3, -⟩ := hS'; go_simp) ?_
      refine T_take (i := 13) (v := .pointer (some ⟨lb, lo, none⟩)) rfl (by kernel_rfl) (by kernel_rfl) (by kernel_rfl) (by kernel_rfl) (fun _ _ _ h => h) hS0.out (by kernel_rfl) (fun w' hS' => by obtain ⟨⟨h0, h1⟩, -⟩ := hS'.1.two; obtain ⟨-, h2, h3, -⟩ := hS'; go_simp; try (intro hz; omega)) ?_
      refine T_take (i := 14) (v := r0) rfl (by kernel_rfl) (by kernel_rfl) (by kernel_rfl) (by kernel_rfl) (fun _ _ _ h => h) hS0.out (by kernel_rfl) (fun w' hS' => by obtain ⟨⟨h0, h1⟩, -⟩ := hS'.1.two; obtain ⟨-, h2, h3, -⟩ := hS'; go_simp) ?_
      refine T_take (i := 15) (v := .pointer (some ⟨w1.heap.size, 0, none⟩)) rfl (by kernel_rfl) (by kernel_rfl) (by kernel_rfl) (by kernel_rfl) (fun _ _ _ h => h) hS0.out (by kernel_rfl) (fun w' hS' => by obtain ⟨⟨h0, h1⟩, -⟩ := hS'.1.two; obtain ⟨-, h2, h3, -⟩ := hS'; go_simp) ?_
      refine T_take (i := 16) (v := .slice ua k.1.length uc) rfl (by kernel_rfl) (by kernel_rfl) (by kernel_rfl) (by kernel_rfl) (fun _ _ _ h => h) hS0.out (by kernel_rfl) (fun w' hS' => by obtain ⟨⟨h0, h1⟩, -⟩ := hS'.1.two; obtain ⟨-, h2, h3, -⟩ := hS'; go_simp) ?_
      refine T_step (i := 17) rfl (by kernel_rfl) rfl (by kernel_rfl) ?_
      intro K hK
      go_simp
      refine (same_int k.1 _ _ _ (HS0.out.below hS0.out.2.2.2) (CU_11.out.below hS0.out.2.2.2)).mono ?_
      rintro e' wT1 ⟨rfl, hb1⟩
      have hS1 := Lib.hid (show (fun (w' : World) => Bk w' (w1.heap.size) #[.slice ua k.1.length uc, .slice ta k.2.length tc] 26 ∧ w'.cell? ⟨lb, lo, none⟩ = some r0 ∧ w'.cell? ⟨lb, lo + nl, none⟩ = some r9 ∧ Below V.heap.size V w') wT1 from ⟨hS0.out.1.below hb1, (hb1.cell (p := ⟨lb, lo, none⟩) (Nat.lt_of_lt_of_le hlb hS0.out.2.2.2.size)).trans hS0.out.2.1, (hb1.cell (p := ⟨lb, lo + nl, none⟩) (Nat.lt_of_lt_of_le hlb hS0.out.2.2.2.size)).trans hS0.out.2.2.1, hS0.out.2.2.2.trans (hb1.mono hS0.out.2.2.2.size)⟩)
      refine hK.out _ _ hS1.out ?_
      clear hK K
      refine T_take (i := 18) (v := .bool false) rfl (by kernel_rfl) (by kernel_rfl) (by kernel_rfl) (by kernel_rfl) (fun _ _ _ h => h) hS1.out (by kernel_rfl) (fun w' hS' => by obtain ⟨⟨h0, h1⟩, -⟩ := hS'.1.two; obtain ⟨-, h2, h3, -⟩ := hS'; go_simp) ?_
      refine T_take (i := 19) (v := .bool false) rfl (by kernel_rfl) (by kernel_rfl) (by kernel_rfl) (by kernel_rfl) (fun _ _ _ h => h) hS1.out (by kernel_rfl) (fun w' hS' => by obtain ⟨⟨h0, h1⟩, -⟩ := hS'.1.two; obtain ⟨-, h2, h3, -⟩ := hS'; go_simp) ?_
      refine T_take (i := 20) (v := .bool false) rfl (by kernel_rfl) (by kernel_rfl) (by kernel_rfl) (by kernel_rfl) (fun _ _ _ h => h) hS1.out (by kernel_rfl) (fun w' hS' => by obtain ⟨⟨h0, h1⟩, -⟩ := hS'.1.two; obtain ⟨-, h2, h3, -⟩ := hS'; go_simp) ?_
      refine T_take (i := 21) (v := .slice (some ⟨lb, lo, none⟩) n lc) rfl (by kernel_rfl) (by kernel_rfl) (by kernel_rfl) (by kernel_rfl) (fun _ _ _ h => h) hS1.out (by kernel_rfl) (fun w' hS' => by obtain ⟨⟨h0, h1⟩, -⟩ := hS'.1.two; obtain ⟨-, h2, h3, -⟩ := hS'; go_simp) ?_
      refine T_take (i := 22) (v := .slice (some ⟨lb, lo, none⟩) n lc) rfl (by kernel_rfl) (by kernel_rfl) (by kernel_rfl) (by kernel_rfl) (fun _ _ _ h => h) hS1.out (by kernel_rfl) (fun w' hS' => by obtain ⟨⟨h0, h1⟩, -⟩ := hS'.1.two; obtain ⟨-, h2, h3, -⟩ := hS'; go_simp) ?_
      refine T_take (i := 23) (v := .int .i64 n) rfl (by kernel_rfl) (by kernel_rfl) (by kernel_rfl) (by kernel_rfl) (fun _ _ _ h => h) hS1.out (by kernel_rfl) (fun w' hS' => by obtain ⟨⟨h0, h1⟩, -⟩ := hS'.1.two; obtain ⟨-, h2, h3, -⟩ := hS'; go_simp) ?_
      refine T_take (i := 24) (v := .int .i64 nl) rfl (by kernel_rfl) (by kernel_rfl) (by kernel_rfl) (by kernel_rfl) (fun _ _ _ h => h) hS1.out (by kernel_rfl) (fun w' hS' => by obtain ⟨⟨h0, h1⟩, -⟩ := hS'.1.two; obtain ⟨-, h2, h3, -⟩ := hS'; go_simp) ?_
      refine T_take (i := 25) (v := .pointer (some ⟨lb, lo + nl, none⟩)) rfl (by kernel_rfl) (by kernel_rfl) (by kernel_rfl) (by kernel_rfl) (fun _ _ _ h => h) hS1.out (by kernel_rfl) (fun w' hS' => by obtain ⟨⟨h0, h1⟩, -⟩ := hS'.1.two; obtain ⟨-, h2, h3, -⟩ := hS'; go_simp) ?_
      refine T_take (i := 26) (v := r9) rfl (by kernel_rfl) (by kernel_rfl) (by kernel_rfl) (by kernel_rfl) (fun _ _ _ h => h) hS1.out (by kernel_rfl) (fun w' hS' => by obtain ⟨⟨h0, h1⟩, -⟩ := hS'.1.two; obtain ⟨-, h2, h3, -⟩ := hS'; go_simp) ?_
      refine T_take (i := 27) (v := .pointer (some ⟨w1.heap.size, 1, none⟩)) rfl (by kernel_rfl) (by kernel_rfl) (by kernel_rfl) (by kernel_rfl) (fun _ _ _ h => h) hS1.out (by kernel_rfl) (fun w' hS' => by obtain ⟨⟨h0, h1⟩, -⟩ := hS'.1.two; obtain ⟨-, h2, h3, -⟩ := hS'; go_simp) ?_
      refine T_take (i := 28) (v := .slice ta k.2.length tc) rfl (by kernel_rfl) (by kernel_rfl) (by kernel_rfl) (by kernel_rfl) (fun _ _ _ h => h) hS1.out (by kernel_rfl) (fun w' hS' => by obtain ⟨⟨h0, h1⟩, -⟩ := hS'.1.two; obtain ⟨-, h2, h3, -⟩ := hS'; go_simp) ?_
      refine T_step (i := 29) rfl (by kernel_rfl) rfl (by kernel_rfl) ?_
      intro K hK
      go_simp
      refine (same_int k.2 _ _ _ (HS9.out.below hS1.out.2.2.2) (CV_11.out.below hS1.out.2.2.2)).mono ?_
      rintro e' wT2 ⟨rfl, hb2⟩
      have hS2 := Lib.hid (show (fun (w' : World) => Bk w' (w1.heap.size) #[.slice ua k.1.length uc, .slice ta k.2.length tc] 26 ∧ w'.cell? ⟨lb, lo, none⟩ = some r0 ∧ w'.cell? ⟨lb, lo + nl, none⟩ = some r9 ∧ Below V.heap.size V w') wT2 from ⟨hS1.out.1.below hb2, (hb2.cell (p := ⟨lb, lo, none⟩) (Nat.lt_of_lt_of_le hlb hS1.out.2.2.2.size)).trans hS1.out.2.1, (hb2.cell (p := ⟨lb, lo + nl, none⟩) (Nat.lt_of_lt_of_le hlb hS1.out.2.2.2.size)).trans hS1.out.2.2.1, hS1.out.2.2.2.trans (hb2.mono hS1.out.2.2.2.size)⟩)
      refine hK.out _ _ hS2.out ?_
      clear hK K
      refine T_take (i := 30) (v := .bool false) rfl (by kernel_rfl) (by kernel_rfl) (by kernel_rfl) (by kernel_rfl) (fun _ _ _ h => h) hS2.out (by kernel_rfl) (fun w' hS' => by obtain ⟨⟨h0, h1⟩, -⟩ := hS'.1.two; obtain ⟨-, h2, h3, -⟩ := hS'; go_simp) ?_
      refine T_take (i := 31) (v := .bool false) rfl (by kernel_rfl) (by kernel_rfl) (by kernel_rfl) (by kernel_rfl) (fun _ _ _ h => h) hS2.out (by kernel_rfl) (fun w' hS' => by obtain ⟨⟨h0, h1⟩, -⟩ := hS'.1.two; obtain ⟨-, h2, h3, -⟩ := hS'; go_simp) ?_
      refine ⟨by kernel_rfl, ?_⟩
      have PB2 := Lib.hid hS2.out.1
      have BW2 := Lib.hid hS2.out.2.2.2
      clear hS0 hS1 hS2 e0 e9 HS0 HS9 f1 f2 f3 f5 f6
      go_wp2_with fail
      go_loopw [13] (fun s wr => ∃ j : Nat, 1 ≤ j ∧ j ≤ n ∧ s = .int .i64 j ∧ Bk wr (w1.heap.size) #[.slice ua k.1.length uc, .slice ta k.2.length tc] 26 ∧ Below V.heap.size V wr) (fun s _ => n - (RowKit.intOf s).toNat)
      case atStart => exact ⟨1, Nat.le_refl _, by omega, rfl, PB2.out, BW2.out⟩
      case round =>
        obtain ⟨j, hj1, hjn, rfl, hpb, hbr⟩ := hrel
        have PBr := Lib.hid hpb
        have BWr := Lib.hid hbr
        clear hpb hbr
        by_cases hlt : j < n
        · have hLM := HN.out
          obtain ⟨jm, hjm⟩ : ∃ jm, j = jm + 1 := ⟨j - 1, by omega⟩
          have ex := List.getElem?_eq_getElem (l := M) (i := jm) (by omega)
          have ey := List.getElem?_eq_getElem (l := M) (i := j) (by omega)
          have ho : crP (M[jm]'(by omega)) (M[j]'(by omega)) = 1 := by subst hjm; exact HLC.out.one jm (by omega)
          have hx3 := HLC.out.small (M[jm]'(by omega)) (List.getElem_mem _)
          have hy3 := HLC.out.small (M[j]'(by omega)) (List.getElem_mem _)
          have hin := HLC.out.inside (M[j]'(by omega)) (List.getElem_mem _)
          have HTN := Lib.hid (show j + 1 < n → ∃ (z : P2) (t : Int), M[j + 1]? = some z ∧ Cn30 z ∧ RT[jm]? = some t ∧ 2 ≤ t ∧ t ≤ 1800 ∧ addL (rowOf (M[jm]'(by omega))) (rowOf z) = scaleL (rowOf (M[j]'(by omega))) t from fun h2 => by obtain ⟨t, t1, t2, t3, t4⟩ := HLC.out.turn jm (by omega); subst hjm; exact ⟨_, t, List.getElem?_eq_getElem (by omega), HLC.out.small _ (List.getElem_mem _), by rw [HRT.out]; exact t1, t2, t3, t4⟩)
          generalize M[jm]'(by omega) = x at ex ho hx3 HTN
          generalize M[j]'(by omega) = y at ey ho hy3 hin HTN
          obtain ⟨hix, gx⟩ := law_get HRL.out ex
          obtain ⟨hiy, gy⟩ := law_get HRL.out ey
          have RWL := Lib.hid (show Rw V (.slice (some ⟨lb, lo, none⟩) RL.length lc) RL from L_11.out)
          obtain ⟨lb2, lo2, rx, el, _, hcx, hsx⟩ := RWL.out.row jm hix rfl
          simp only [Option.some.injEq, Addr.mk.injEq, and_true] at el
          obtain ⟨rfl, rfl⟩ := el
          rw [gx] at hsx
          obtain ⟨lb2, lo2, ry, el, _, hcy, hsy⟩ := RWL.out.row j hiy rfl
          simp only [Option.some.injEq, Addr.mk.injEq, and_true] at el
          obtain ⟨rfl, rfl⟩ := el
          rw [gy] at hsy
          have HSX := Lib.hid hsx
          have HSY := Lib.hid hsy
          have HCX := Lib.hid hcx
          have HCY := Lib.hid hcy
          have HX3 := Lib.hid hx3
          have HY3 := Lib.hid hy3
          have HONE := Lib.hid ho
          have HIN := Lib.hid hin
          have ax := (BWr.out.cell (p := ⟨lb, lo + jm, none⟩) hlb).trans hcx
          have ay := (BWr.out.cell (p := ⟨lb, lo + j, none⟩) hlb).trans hcy
          have f1 : IntKind.i64.wrap ((j : Int) - 1) = (jm : Int) := by rw [IntWalk.i64_in _ (by omega)]; omega
          have f2 : (0 : Int) ≤ (jm : Int) := by omega
          have f3 : (jm : Int) < (n : Int) := by omega
          have f5 : (0 : Int) ≤ (j : Int) := by omega
          have f6 : (j : Int) < (n : Int) := by omega
          have HJM := Lib.hid hjm
          clear ex ey ho hx3 hy3 hin hix hiy gx gy hcx hcy hsx hsy hjm hLM
          go_wp2_with fail
          refine T_begin (z := fun k => 19 < k) (S := fun (w' : World) => Bk w' (w1.heap.size) #[.slice ua k.1.length uc, .slice ta k.2.length tc] 26 ∧ w'.cell? ⟨lb, lo + jm, none⟩ = some rx ∧ w'.cell? ⟨lb, lo + j, none⟩ = some ry ∧ Below V.heap.size V w') (by kernel_rfl) ?_
          show wpAnyT _ _ _ _ _ _ 20 _ _ _
          have hS0 := Lib.hid (show (fun (w' : World) => Bk w' (w1.heap.size) #[.slice ua k.1.length uc, .slice ta k.2.length tc] 26 ∧ w'.cell? ⟨lb, lo + jm, none⟩ = some rx ∧ w'.cell? ⟨lb, lo + j, none⟩ = some ry ∧ Below V.heap.size V w') (wr.drew) from ⟨PBr.out, ax, ay, BWr.out.drew⟩)
          refine T_take (i := 0) (v := .slice (some ⟨lb, lo, none⟩) n lc) rfl (by kernel_rfl) (by kernel_rfl) (by kernel_rfl) (by kernel_rfl) (fun _ _ _ h => h) hS0.out (by kernel_rfl) (fun w' hS' => by obtain ⟨⟨h0, h1⟩, -⟩ := hS'.1.two; obtain ⟨-, h2, h3, -⟩ := hS'; go_simp) ?_
          refine T_take (i := 1) (v := .int .i64 j) rfl (by kernel_rfl) (by kernel_rfl) (by kernel_rfl) (by kernel_rfl) (fun _ _ _ h => h) hS0.out (by kernel_rfl) (fun w' hS' => by obtain ⟨⟨h0, h1⟩, -⟩ := hS'.1.two; obtain ⟨-, h2, h3, -⟩ := hS'; go_simp) ?_
          refine T_take (i := 2) (v := .int .i64 jm) rfl (by kernel_rfl) (by kernel_rfl) (by kernel_rfl) (by kernel_rfl) (fun _ _ _ h => h) hS0.out (by kernel_rfl) (fun w' hS' => by obtain ⟨⟨h0, h1⟩, -⟩ := hS'.1.two; obtain ⟨-, h2, h3, -⟩ := hS'; go_simp) ?_
          refine T_take (i := 3) (v := .pointer (some ⟨lb, lo + jm, none⟩)) rfl (by kernel_rfl) (by kernel_rfl) (by kernel_rfl) (by kernel_rfl) (fun _ _ _ h => h) hS0.out (by kernel_rfl) (fun w' hS' => by obtain ⟨⟨h0, h1⟩, -⟩ := hS'.1.two; obtain ⟨-, h2, h3, -⟩ := hS'; go_simp) ?_
          refine T_take (i := 4) (v := rx) rfl (by kernel_rfl) (by kernel_rfl) (by kernel_rfl) (by kernel_rfl) (fun _ _ _ h => h) hS0.out (by kernel_rfl) (fun w' hS' => by obtain ⟨⟨h0, h1⟩, -⟩ := hS'.1.two; obtain ⟨-, h2, h3, -⟩ := hS'; go_simp) ?_
          refine T_take (i := 5) (v := .slice (some ⟨lb, lo, none⟩) n lc) rfl (by kernel_rfl) (by kernel_rfl) (by kernel_rfl) (by kernel_rfl) (fun _ _ _ h => h) hS0.out (by kernel_rfl) (fun w' hS' => by obtain ⟨⟨h0, h1⟩, -⟩ := hS'.1.two; obtain ⟨-, h2, h3, -⟩ := hS'; go_simp) ?_
          refine T_take (i := 6) (v := .int .i64 j) rfl (by kernel_rfl) (by kernel_rfl) (by kernel_rfl) (by kernel_rfl) (fun _ _ _ h => h) hS0.out (by kernel_rfl) (fun w' hS' => by obtain ⟨⟨h0, h1⟩, -⟩ := hS'.1.two; obtain ⟨-, h2, h3, -⟩ := hS'; go_simp) ?_
          refine T_take (i := 7) (v := .pointer (some ⟨lb, lo + j, none⟩)) rfl (by kernel_rfl) (by kernel_rfl) (by kernel_rfl) (by kernel_rfl) (fun _ _ _ h => h) hS0.out (by kernel_rfl) (fun w' hS' => by obtain ⟨⟨h0, h1⟩, -⟩ := hS'.1.two; obtain ⟨-, h2, h3, -⟩ := hS'; go_simp) ?_
          refine T_take (i := 8) (v := ry) rfl (by kernel_rfl) (by kernel_rfl) (by kernel_rfl) (by kernel_rfl) (fun _ _ _ h => h) hS0.out (by kernel_rfl) (fun w' hS' => by obtain ⟨⟨h0, h1⟩, -⟩ := hS'.1.two; obtain ⟨-, h2, h3, -⟩ := hS'; go_simp) ?_
          refine T_step (i := 9) rfl (by kernel_rfl) rfl (by kernel_rfl) ?_
          intro K hK
          go_simp
          refine (l_cross x y HX3.out HY3.out _ _ _ (HSX.out.below hS0.out.2.2.2) (HSY.out.below hS0.out.2.2.2)).mono ?_
          rintro e' wT1 ⟨rfl, hb1⟩
          rw [HONE.out]
          have hS1 := Lib.hid (show (fun (w' : World) => Bk w' (w1.heap.size) #[.slice ua k.1.length uc, .slice ta k.2.length tc] 26 ∧ w'.cell? ⟨lb, lo + jm, none⟩ = some rx ∧ w'.cell? ⟨lb, lo + j, none⟩ = some ry ∧ Below V.heap.size V w') wT1 from ⟨hS0.out.1.below hb1, (hb1.cell (p := ⟨lb, lo + jm, none⟩) (Nat.lt_of_lt_of_le hlb hS0.out.2.2.2.size)).trans hS0.out.2.1, (hb1.cell (p := ⟨lb, lo + j, none⟩) (Nat.lt_of_lt_of_le hlb hS0.out.2.2.2.size)).trans hS0.out.2.2.1, hS0.out.2.2.2.trans (hb1.mono hS0.out.2.2.2.size)⟩)
          refine hK.out _ _ hS1.out ?_
          clear hK K
          refine T_take (i := 10) (v := .bool false) rfl (by kernel_rfl) (by kernel_rfl) (by kernel_rfl) (by kernel_rfl) (fun _ _ _ h => h) hS1.out (by kernel_rfl) (fun w' hS' => by obtain ⟨⟨h0, h1⟩, -⟩ := hS'.1.two; obtain ⟨-, h2, h3, -⟩ := hS'; go_simp) ?_
          refine T_take (i := 11) (v := .bool false) rfl (by kernel_rfl) (by kernel_rfl) (by kernel_rfl) (by kernel_rfl) (fun _ _ _ h => h) hS1.out (by kernel_rfl) (fun w' hS' => by obtain ⟨⟨h0, h1⟩, -⟩ := hS'.1.two; obtain ⟨-, h2, h3, -⟩ := hS'; go_simp) ?_
          refine T_take (i := 12) (v := .agg #[.slice ua k.1.length uc, .slice ta k.2.length tc]) rfl (by kernel_rfl) (by kernel_rfl) (by kernel_rfl) (by kernel_rfl) (fun _ _ _ h => h) hS1.out (by kernel_rfl) (fun w' hS' => by obtain ⟨⟨h0, h1⟩, -⟩ := hS'.1.two; obtain ⟨-, h2, h3, -⟩ := hS'; go_simp) ?_
          refine T_take (i := 13) (v := .slice (some ⟨lb, lo, none⟩) n lc) rfl (by kernel_rfl) (by kernel_rfl) (by kernel_rfl) (by kernel_rfl) (fun _ _ _ h => h) hS1.out (by kernel_rfl) (fun w' hS' => by obtain ⟨⟨h0, h1⟩, -⟩ := hS'.1.two; obtain ⟨-, h2, h3, -⟩ := hS'; go_simp) ?_
          refine T_take (i := 14) (v := .int .i64 j) rfl (by kernel_rfl) (by kernel_rfl) (by kernel_rfl) (by kernel_rfl) (fun _ _ _ h => h) hS1.out (by kernel_rfl) (fun w' hS' => by obtain ⟨⟨h0, h1⟩, -⟩ := hS'.1.two; obtain ⟨-, h2, h3, -⟩ := hS'; go_simp) ?_
          refine T_take (i := 15) (v := .pointer (some ⟨lb, lo + j, none⟩)) rfl (by kernel_rfl) (by kernel_rfl) (by kernel_rfl) (by kernel_rfl) (fun _ _ _ h => h) hS1.out (by kernel_rfl) (fun w' hS' => by obtain ⟨⟨h0, h1⟩, -⟩ := hS'.1.two; obtain ⟨-, h2, h3, -⟩ := hS'; go_simp) ?_
          refine T_take (i := 16) (v := ry) rfl (by kernel_rfl) (by kernel_rfl) (by kernel_rfl) (by kernel_rfl) (fun _ _ _ h => h) hS1.out (by kernel_rfl) (fun w' hS' => by obtain ⟨⟨h0, h1⟩, -⟩ := hS'.1.two; obtain ⟨-, h2, h3, -⟩ := hS'; go_simp) ?_
          refine T_step (i := 17) rfl (by kernel_rfl) rfl (by kernel_rfl) ?_
          intro K hK
          go_simp
          refine (i_incone k (rowOf y) _ _ _ (C_11.out.below hS1.out.2.2.2) (HSY.out.below hS1.out.2.2.2)).mono ?_
          rintro e' wT2 ⟨rfl, hb2⟩
          rw [HIN.out]
          have hS2 := Lib.hid (show (fun (w' : World) => Bk w' (w1.heap.size) #[.slice ua k.1.length uc, .slice ta k.2.length tc] 26 ∧ w'.cell? ⟨lb, lo + jm, none⟩ = some rx ∧ w'.cell? ⟨lb, lo + j, none⟩ = some ry ∧ Below V.heap.size V w') wT2 from ⟨hS1.out.1.below hb2, (hb2.cell (p := ⟨lb, lo + jm, none⟩) (Nat.lt_of_lt_of_le hlb hS1.out.2.2.2.size)).trans hS1.out.2.1, (hb2.cell (p := ⟨lb, lo + j, none⟩) (Nat.lt_of_lt_of_le hlb hS1.out.2.2.2.size)).trans hS1.out.2.2.1, hS1.out.2.2.2.trans (hb2.mono hS1.out.2.2.2.size)⟩)
          refine hK.out _ _ hS2.out ?_
          clear hK K
          refine T_take (i := 18) (v := .bool false) rfl (by kernel_rfl) (by kernel_rfl) (by kernel_rfl) (by kernel_rfl) (fun _ _ _ h => h) hS2.out (by kernel_rfl) (fun w' hS' => by obtain ⟨⟨h0, h1⟩, -⟩ := hS'.1.two; obtain ⟨-, h2, h3, -⟩ := hS'; go_simp) ?_
          refine T_take (i := 19) (v := .bool false) rfl (by kernel_rfl) (by kernel_rfl) (by kernel_rfl) (by kernel_rfl) (fun _ _ _ h => h) hS2.out (by kernel_rfl) (fun w' hS' => by obtain ⟨⟨h0, h1⟩, -⟩ := hS'.1.two; obtain ⟨-, h2, h3, -⟩ := hS'; go_simp) ?_
          refine ⟨by kernel_rfl, ?_⟩
          have PB3 := Lib.hid hS2.out.1
          have BW3 := Lib.hid hS2.out.2.2.2
          have ax := hS2.out.2.1
          have ay := hS2.out.2.2.1
          clear hS0 hS1 hS2
          obtain ⟨jp, hjp⟩ : ∃ jp, jp = j + 1 := ⟨_, rfl⟩
          have f7 : IntKind.i64.wrap ((j : Int) + 1) = (jp : Int) := by rw [IntWalk.i64_in _ (by omega)]; omega
          have HJP := Lib.hid hjp
          obtain ⟨W3, hW3⟩ : ∃ W3, wT2 = W3 := ⟨_, rfl⟩
          subst hW3
          by_cases h2 : jp < n
          · have htn := HTN.out (by omega)
            obtain ⟨z, t, ez, hz3, et, t2, t3, hadd⟩ := htn
            rw [← hjp] at ez
            obtain ⟨hiz, gz⟩ := law_get HRL.out ez
            obtain ⟨lb2, lo2, rz, el, _, hcz, hsz⟩ := RWL.out.row jp hiz rfl
            simp only [Option.some.injEq, Addr.mk.injEq, and_true] at el
            obtain ⟨rfl, rfl⟩ := el
            rw [gz] at hsz
            obtain ⟨ta9, td9, e9, _, hto⟩ := T_11.out.shape
            simp only [Value.slice.injEq] at e9
            obtain ⟨rfl, -, rfl⟩ := e9
            obtain ⟨tbb, tbo, rfl, _, htl, htx⟩ := hto (by rw [intVals_len]; have := lt_of_get et; omega)
            have hct := htx jm (.int .i64 t) (by unfold intVals; rw [List.getElem?_map, et]; rfl)
            have HSZ := Lib.hid hsz
            have HZ3 := Lib.hid hz3
            have HADD := Lib.hid hadd
            have az := (BW3.out.cell (p := ⟨lb, lo + jp, none⟩) hlb).trans hcz
            have at9 := (BW3.out.cell (p := ⟨tbb, tbo + jm, none⟩) htl).trans hct
            have g1 : (jp : Int) < (n : Int) := by omega
            have g2 : (0 : Int) ≤ (jp : Int) := by omega
            have g3 : (jm : Int) < (m : Int) := by have := HNL.out.2; have := HJM.out; omega
            have g4 : ¬ t < 2 := by omega
            clear ez hz3 et hadd hiz gz hcz hsz hto htx hct hjp
            go_wp2_with fail
            refine T_begin (z := fun k => 37 < k) (S := fun (w' : World) => w'.cell? ⟨lb, lo + jm, none⟩ = some rx ∧ w'.cell? ⟨lb, lo + j, none⟩ = some ry ∧ w'.cell? ⟨lb, lo + jp, none⟩ = some rz ∧ w'.cell? ⟨tbb, tbo + jm, none⟩ = some (.int .i64 t) ∧ Bk w' (w1.heap.size) #[.slice ua k.1.length uc, .slice ta k.2.length tc] 26 ∧ Below V.heap.size V w') (by kernel_rfl) ?_
            show wpAnyT _ _ _ _ _ _ 38 _ _ _
            have hS0 := Lib.hid (show (fun (w' : World) => w'.cell? ⟨lb, lo + jm, none⟩ = some rx ∧ w'.cell? ⟨lb, lo + j, none⟩ = some ry ∧ w'.cell? ⟨lb, lo + jp, none⟩ = some rz ∧ w'.cell? ⟨tbb, tbo + jm, none⟩ = some (.int .i64 t) ∧ Bk w' (w1.heap.size) #[.slice ua k.1.length uc, .slice ta k.2.length tc] 26 ∧ Below V.heap.size V w') (wT2.drew) from ⟨ax, ay, az, at9, PB3.out, BW3.out.drew⟩)
            refine T_take (i := 0) (v := .int .i64 j) rfl (by kernel_rfl) (by kernel_rfl) (by kernel_rfl) (by kernel_rfl) (fun _ _ _ h => h) hS0.out (by kernel_rfl) (fun w' hS' => by obtain ⟨h0, h1, h2, h3, -⟩ := hS'; go_simp) ?_
            refine T_take (i := 1) (v := .int .i64 jp) rfl (by kernel_rfl) (by kernel_rfl) (by kernel_rfl) (by kernel_rfl) (fun _ _ _ h => h) hS0.out (by kernel_rfl) (fun w' hS' => by obtain ⟨h0, h1, h2, h3, -⟩ := hS'; go_simp) ?_
            refine T_take (i := 2) (v := .slice (some ⟨lb, lo, none⟩) n lc) rfl (by kernel_rfl) (by kernel_rfl) (by kernel_rfl) (by kernel_rfl) (fun _ _ _ h => h) hS0.out (by kernel_rfl) (fun w' hS' => by obtain ⟨h0, h1, h2, h3, -⟩ := hS'; go_simp) ?_
            refine T_take (i := 3) (v := .int .i64 n) rfl (by kernel_rfl) (by kernel_rfl) (by kernel_rfl) (by kernel_rfl) (fun _ _ _ h => h) hS0.out (by kernel_rfl) (fun w' hS' => by obtain ⟨h0, h1, h2, h3, -⟩ := hS'; go_simp) ?_
            refine T_take (i := 4) (v := .bool true) rfl (by kernel_rfl) (by kernel_rfl) (by kernel_rfl) (by kernel_rfl) (fun _ _ _ h => h) hS0.out (by kernel_rfl) (fun w' hS' => by obtain ⟨h0, h1, h2, h3, -⟩ := hS'; go_simp) ?_
            refine T_take (i := 5) (v := .bool true) rfl (by kernel_rfl) (by kernel_rfl) (by kernel_rfl) (by kernel_rfl) (fun _ _ _ h => h) hS0.out (by kernel_rfl) (fun w' hS' => by obtain ⟨h0, h1, h2, h3, -⟩ := hS'; go_simp) ?_
            refine T_take (i := 6) (v := .slice (some ⟨tbb, tbo, none⟩) m td) rfl (by kernel_rfl) (by kernel_rfl) (by kernel_rfl) (by kernel_rfl) (fun _ _ _ h => h) hS0.out (by kernel_rfl) (fun w' hS' => by obtain ⟨h0, h1, h2, h3, -⟩ := hS'; go_simp) ?_
            refine T_take (i := 7) (v := .int .i64 j) rfl (by kernel_rfl) (by kernel_rfl) (by kernel_rfl) (by kernel_rfl) (fun _ _ _ h => h) hS0.out (by kernel_rfl) (fun w' hS' => by obtain ⟨h0, h1, h2, h3, -⟩ := hS'; go_simp) ?_
            refine T_take (i := 8) (v := .int .i64 jm) rfl (by kernel_rfl) (by kernel_rfl) (by kernel_rfl) (by kernel_rfl) (fun _ _ _ h => h) hS0.out (by kernel_rfl) (fun w' hS' => by obtain ⟨h0, h1, h2, h3, -⟩ := hS'; go_simp) ?_
            refine T_take (i := 9) (v := .pointer (some ⟨tbb, tbo + jm, none⟩)) rfl (by kernel_rfl) (by kernel_rfl) (by kernel_rfl) (by kernel_rfl) (fun _ _ _ h => h) hS0.out (by kernel_rfl) (fun w' hS' => by obtain ⟨h0, h1, h2, h3, -⟩ := hS'; go_simp) ?_
            refine T_take (i := 10) (v := .int .i64 t) rfl (by kernel_rfl) (by kernel_rfl) (by kernel_rfl) (by kernel_rfl) (fun _ _ _ h => h) hS0.out (by kernel_rfl) (fun w' hS' => by obtain ⟨h0, h1, h2, h3, -⟩ := hS'; go_simp) ?_
            refine T_take (i := 11) (v := .bool false) rfl (by kernel_rfl) (by kernel_rfl) (by kernel_rfl) (by kernel_rfl) (fun _ _ _ h => h) hS0.out (by kernel_rfl) (fun w' hS' => by obtain ⟨h0, h1, h2, h3, -⟩ := hS'; go_simp) ?_
            refine T_take (i := 12) (v := .bool false) rfl (by kernel_rfl) (by kernel_rfl) (by kernel_rfl) (by kernel_rfl) (fun _ _ _ h => h) hS0.out (by kernel_rfl) (fun w' hS' => by obtain ⟨h0, h1, h2, h3, -⟩ := hS'; go_simp) ?_
            refine T_take (i := 13) (v := .slice (some ⟨lb, lo, none⟩) n lc) rfl (by kernel_rfl) (by kernel_rfl) (by kernel_rfl) (by kernel_rfl) (fun _ _ _ h => h) hS0.out (by kernel_rfl) (fun w' hS' => by obtain ⟨h0, h1, h2, h3, -⟩ := hS'; go_simp) ?_
            refine T_take (i := 14) (v := .int .i64 j) rfl (by kernel_rfl) (by kernel_rfl) (by kernel_rfl) (by kernel_rfl) (fun _ _ _ h => h) hS0.out (by kernel_rfl) (fun w' hS' => by obtain ⟨h0, h1, h2, h3, -⟩ := hS'; go_simp) ?_
            refine T_take (i := 15) (v := .int .i64 jm) rfl (by kernel_rfl) (by kernel_rfl) (by kernel_rfl) (by kernel_rfl) (fun _ _ _ h => h) hS0.out (by kernel_rfl) (fun w' hS' => by obtain ⟨h0, h1, h2, h3, -⟩ := hS'; go_simp) ?_
            refine T_take (i := 16) (v := .pointer (some ⟨lb, lo + jm, none⟩)) rfl (by kernel_rfl) (by kernel_rfl) (by kernel_rfl) (by kernel_rfl) (fun _ _ _ h => h) hS0.out (by kernel_rfl) (fun w' hS' => by obtain ⟨h0, h1, h2, h3, -⟩ := hS'; go_simp) ?_
            refine T_take (i := 17) (v := rx) rfl (by kernel_rfl) (by kernel_rfl) (by kernel_rfl) (by kernel_rfl) (fun _ _ _ h => h) hS0.out (by kernel_rfl) (fun w' hS' => by obtain ⟨h0, h1, h2, h3, -⟩ := hS'; go_simp) ?_
            refine T_take (i := 18) (v := .slice (some ⟨lb, lo, none⟩) n lc) rfl (by kernel_rfl) (by kernel_rfl) (by kernel_rfl) (by kernel_rfl) (fun _ _ _ h => h) hS0.out (by kernel_rfl) (fun w' hS' => by obtain ⟨h0, h1, h2, h3, -⟩ := hS'; go_simp) ?_
            refine T_take (i := 19) (v := .int .i64 j) rfl (by kernel_rfl) (by kernel_rfl) (by kernel_rfl) (by kernel_rfl) (fun _ _ _ h => h) hS0.out (by kernel_rfl) (fun w' hS' => by obtain ⟨h0, h1, h2, h3, -⟩ := hS'; go_simp) ?_
            refine T_take (i := 20) (v := .int .i64 jp) rfl (by kernel_rfl) (by kernel_rfl) (by kernel_rfl) (by kernel_rfl) (fun _ _ _ h => h) hS0.out (by kernel_rfl) (fun w' hS' => by obtain ⟨h0, h1, h2, h3, -⟩ := hS'; go_simp) ?_
            refine T_take (i := 21) (v := .pointer (some ⟨lb, lo + jp, none⟩)) rfl (by kernel_rfl) (by kernel_rfl) (by kernel_rfl) (by kernel_rfl) (fun _ _ _ h => h) hS0.out (by kernel_rfl) (fun w' hS' => by obtain ⟨h0, h1, h2, h3, -⟩ := hS'; go_simp) ?_
            refine T_take (i := 22) (v := rz) rfl (by kernel_rfl) (by kernel_rfl) (by kernel_rfl) (by kernel_rfl) (fun _ _ _ h => h) hS0.out (by kernel_rfl) (fun w' hS' => by obtain ⟨h0, h1, h2, h3, -⟩ := hS'; go_simp) ?_
            refine T_take (i := 24) (v := .slice (some ⟨lb, lo, none⟩) n lc) rfl (by kernel_rfl) (by kernel_rfl) (by kernel_rfl) (by kernel_rfl) (fun _ _ _ h => h) hS0.out (by kernel_rfl) (fun w' hS' => by obtain ⟨h0, h1, h2, h3, -⟩ := hS'; go_simp) ?_
            refine T_take (i := 25) (v := .int .i64 j) rfl (by kernel_rfl) (by kernel_rfl) (by kernel_rfl) (by kernel_rfl) (fun _ _ _ h => h) hS0.out (by kernel_rfl) (fun w' hS' => by obtain ⟨h0, h1, h2, h3, -⟩ := hS'; go_simp) ?_
            refine T_take (i := 26) (v := .pointer (some ⟨lb, lo + j, none⟩)) rfl (by kernel_rfl) (by kernel_rfl) (by kernel_rfl) (by kernel_rfl) (fun _ _ _ h => h) hS0.out (by kernel_rfl) (fun w' hS' => by obtain ⟨h0, h1, h2, h3, -⟩ := hS'; go_simp) ?_
            refine T_take (i := 27) (v := ry) rfl (by kernel_rfl) (by kernel_rfl) (by kernel_rfl) (by kernel_rfl) (fun _ _ _ h => h) hS0.out (by kernel_rfl) (fun w' hS' => by obtain ⟨h0, h1, h2, h3, -⟩ := hS'; go_simp) ?_
            refine T_take (i := 28) (v := .slice (some ⟨tbb, tbo, none⟩) m td) rfl (by kernel_rfl) (by kernel_rfl) (by kernel_rfl) (by kernel_rfl) (fun _ _ _ h => h) hS0.out (by kernel_rfl) (fun w' hS' => by obtain ⟨h0, h1, h2, h3, -⟩ := hS'; go_simp) ?_
            refine T_take (i := 29) (v := .int .i64 j) rfl (by kernel_rfl) (by kernel_rfl) (by kernel_rfl) (by kernel_rfl) (fun _ _ _ h => h) hS0.out (by kernel_rfl) (fun w' hS' => by obtain ⟨h0, h1, h2, h3, -⟩ := hS'; go_simp) ?_
            refine T_take (i := 30) (v := .int .i64 jm) rfl (by kernel_rfl) (by kernel_rfl) (by kernel_rfl) (by kernel_rfl) (fun _ _ _ h => h) hS0.out (by kernel_rfl) (fun w' hS' => by obtain ⟨h0, h1, h2, h3, -⟩ := hS'; go_simp) ?_
            refine T_take (i := 31) (v := .pointer (some ⟨tbb, tbo + jm, none⟩)) rfl (by kernel_rfl) (by kernel_rfl) (by kernel_rfl) (by kernel_rfl) (fun _ _ _ h => h) hS0.out (by kernel_rfl) (fun w' hS' => by obtain ⟨h0, h1, h2, h3, -⟩ := hS'; go_simp) ?_
            refine T_take (i := 32) (v := .int .i64 t) rfl (by kernel_rfl) (by kernel_rfl) (by kernel_rfl) (by kernel_rfl) (fun _ _ _ h => h) hS0.out (by kernel_rfl) (fun w' hS' => by obtain ⟨h0, h1, h2, h3, -⟩ := hS'; go_simp) ?_
            refine T_step (i := 23) rfl (by kernel_rfl) rfl (by kernel_rfl) ?_
            intro K hK
            go_simp
            refine (l_plus (rowOf x) (rowOf z) rfl (by simp [rowOf]) 30 (by omega) (bd30 HX3.out) (bd30 HZ3.out) _ _ _ (HSX.out.below hS0.out.2.2.2.2.2) (HSZ.out.below hS0.out.2.2.2.2.2)).mono ?_
            rintro e' wU1 ⟨⟨pv, rfl, hpv⟩, hb1⟩
            have HPV := Lib.hid hpv
            clear hpv
            have hS1 := Lib.hid (show (fun (w' : World) => w'.cell? ⟨lb, lo + jm, none⟩ = some rx ∧ w'.cell? ⟨lb, lo + j, none⟩ = some ry ∧ w'.cell? ⟨lb, lo + jp, none⟩ = some rz ∧ w'.cell? ⟨tbb, tbo + jm, none⟩ = some (.int .i64 t) ∧ Bk w' (w1.heap.size) #[.slice ua k.1.length uc, .slice ta k.2.length tc] 26 ∧ Below V.heap.size V w') wU1 from ⟨(hb1.cell (p := ⟨lb, lo + jm, none⟩) (Nat.lt_of_lt_of_le hlb hS0.out.2.2.2.2.2.size)).trans hS0.out.1, (hb1.cell (p := ⟨lb, lo + j, none⟩) (Nat.lt_of_lt_of_le hlb hS0.out.2.2.2.2.2.size)).trans hS0.out.2.1, (hb1.cell (p := ⟨lb, lo + jp, none⟩) (Nat.lt_of_lt_of_le hlb hS0.out.2.2.2.2.2.size)).trans hS0.out.2.2.1, (hb1.cell (p := ⟨tbb, tbo + jm, none⟩) (Nat.lt_of_lt_of_le htl hS0.out.2.2.2.2.2.size)).trans hS0.out.2.2.2.1, hS0.out.2.2.2.2.1.below hb1, hS0.out.2.2.2.2.2.trans (hb1.mono hS0.out.2.2.2.2.2.size)⟩)
            refine hK.out _ _ hS1.out ?_
            clear hK K
            refine T_step (i := 33) rfl (by kernel_rfl) rfl (by kernel_rfl) ?_
            intro K hK
            go_simp
            refine (l_scaled (rowOf y) (by simp [rowOf]) 30 1800 t (bd30 HY3.out) (by omega) (by omega) (by omega) _ _ (HSY.out.below hS1.out.2.2.2.2.2)).mono ?_
            rintro e' wU2 ⟨⟨sv, rfl, hsv⟩, hb2⟩
            have HPV2 := Lib.hid (HPV.out.below hb2)
            rw [← HADD.out] at hsv
            have HSV := Lib.hid hsv
            clear hsv
            have hS2 := Lib.hid (show (fun (w' : World) => w'.cell? ⟨lb, lo + jm, none⟩ = some rx ∧ w'.cell? ⟨lb, lo + j, none⟩ = some ry ∧ w'.cell? ⟨lb, lo + jp, none⟩ = some rz ∧ w'.cell? ⟨tbb, tbo + jm, none⟩ = some (.int .i64 t) ∧ Bk w' (w1.heap.size) #[.slice ua k.1.length uc, .slice ta k.2.length tc] 26 ∧ Below V.heap.size V w') wU2 from ⟨(hb2.cell (p := ⟨lb, lo + jm, none⟩) (Nat.lt_of_lt_of_le hlb hS1.out.2.2.2.2.2.size)).trans hS1.out.1, (hb2.cell (p := ⟨lb, lo + j, none⟩) (Nat.lt_of_lt_of_le hlb hS1.out.2.2.2.2.2.size)).trans hS1.out.2.1, (hb2.cell (p := ⟨lb, lo + jp, none⟩) (Nat.lt_of_lt_of_le hlb hS1.out.2.2.2.2.2.size)).trans hS1.out.2.2.1, (hb2.cell (p := ⟨tbb, tbo + jm, none⟩) (Nat.lt_of_lt_of_le htl hS1.out.2.2.2.2.2.size)).trans hS1.out.2.2.2.1, hS1.out.2.2.2.2.1.below hb2, hS1.out.2.2.2.2.2.trans (hb2.mono hS1.out.2.2.2.2.2.size)⟩)
            refine hK.out _ _ hS2.out ?_
            clear hK K
            refine T_step (i := 34) rfl (by kernel_rfl) rfl (by kernel_rfl) ?_
            intro K hK
            go_simp
            refine (same_int (addL (rowOf x) (rowOf z)) _ _ _ HPV2.out.sl HSV.out.sl).mono ?_
            rintro e' wU3 ⟨rfl, hb3⟩
            have hS3 := Lib.hid (show (fun (w' : World) => w'.cell? ⟨lb, lo + jm, none⟩ = some rx ∧ w'.cell? ⟨lb, lo + j, none⟩ = some ry ∧ w'.cell? ⟨lb, lo + jp, none⟩ = some rz ∧ w'.cell? ⟨tbb, tbo + jm, none⟩ = some (.int .i64 t) ∧ Bk w' (w1.heap.size) #[.slice ua k.1.length uc, .slice ta k.2.length tc] 26 ∧ Below V.heap.size V w') wU3 from ⟨(hb3.cell (p := ⟨lb, lo + jm, none⟩) (Nat.lt_of_lt_of_le hlb hS2.out.2.2.2.2.2.size)).trans hS2.out.1, (hb3.cell (p := ⟨lb, lo + j, none⟩) (Nat.lt_of_lt_of_le hlb hS2.out.2.2.2.2.2.size)).trans hS2.out.2.1, (hb3.cell (p := ⟨lb, lo + jp, none⟩) (Nat.lt_of_lt_of_le hlb hS2.out.2.2.2.2.2.size)).trans hS2.out.2.2.1, (hb3.cell (p := ⟨tbb, tbo + jm, none⟩) (Nat.lt_of_lt_of_le htl hS2.out.2.2.2.2.2.size)).trans hS2.out.2.2.2.1, hS2.out.2.2.2.2.1.below hb3, hS2.out.2.2.2.2.2.trans (hb3.mono hS2.out.2.2.2.2.2.size)⟩)
            refine hK.out _ _ hS3.out ?_
            clear hK K
            refine T_take (i := 35) (v := .bool false) rfl (by kernel_rfl) (by kernel_rfl) (by kernel_rfl) (by kernel_rfl) (fun _ _ _ h => h) hS3.out (by kernel_rfl) (fun w' hS' => by obtain ⟨h0, h1, h2, h3, -⟩ := hS'; go_simp) ?_
            refine T_take (i := 36) (v := .bool false) rfl (by kernel_rfl) (by kernel_rfl) (by kernel_rfl) (by kernel_rfl) (fun _ _ _ h => h) hS3.out (by kernel_rfl) (fun w' hS' => by obtain ⟨h0, h1, h2, h3, -⟩ := hS'; go_simp) ?_
            refine T_take (i := 37) (v := .bool false) rfl (by kernel_rfl) (by kernel_rfl) (by kernel_rfl) (by kernel_rfl) (fun _ _ _ h => h) hS3.out (by kernel_rfl) (fun w' hS' => by obtain ⟨h0, h1, h2, h3, -⟩ := hS'; go_simp) ?_
            refine ⟨by kernel_rfl, ?_⟩
            have PB4 := Lib.hid hS3.out.2.2.2.2.1
            have BW4 := Lib.hid hS3.out.2.2.2.2.2
            clear hS0 hS1 hS2 hS3 ax ay az at9
            go_wp2_with fail
            exact ⟨⟨jp, by have := HJP.out; omega, by omega, rfl, PB4.out, BW4.out⟩, by have := HJP.out; simp [RowKit.intOf]; omega⟩
          · have g1 : ¬ (jp : Int) < (n : Int) := by omega
            clear hjp
            have g9 : decide ((jp : Int) < (n : Int)) = false := decide_eq_false g1
            clear HTN RWL ax ay
            go_wp2_with fail
            go_quiet (fail)
            have PB4 := Lib.hid (show Bk (wT2.drewN nq) (w1.heap.size) #[.slice ua k.1.length uc, .slice ta k.2.length tc] 26 from PB3.out)
            have BW4 := Lib.hid (below_drewN' BW3.out nq)
            go_wp2_with fail
            exact ⟨⟨jp, by have := HJP.out; omega, by have := HJP.out; omega, rfl, PB4.out, BW4.out⟩, by have := HJP.out; simp [RowKit.intOf]; omega⟩
        · have f9 : ¬ (j : Int) < (n : Int) := by omega
          go_wp2
          go_ret
          exact ⟨rfl, BV.out.trans (BWr.out.mono BV.out.size)⟩

theorem walk (l : List Int) (a : Option Addr) (n c : Nat) (w : World) (hlen : l.length = n) (hs : Sl w (.slice a n c) (numVals .u8 l)) (hz : ∀ z ∈ l, (Lit.int .u8 z).wf = true) :
    Calls Try.prog 3 #[.slice a n c] w fun e w' => e = .returned (.bool true) ∧ Below w.heap.size w w' := by
  by_cases hl : n ≤ 1048576
  · have hc := code_in hlen hs hz hl
    subst hlen
    exact walk_small a c l w hc
  · exact walk_big a n c (by omega) w

theorem own : ownKnob Try.prog.godebug = none := by kernel_rfl
theorem laidOut : laidOutB Try.prog = true := by kernel_rfl


set_option maxRecDepth 100000 in
set_option linter.unusedVariables false in
theorem contract (H : Type) (enc : TypeId × Value → H) (W : World) (base : Nat) (args : Array Value) (ds gs : List (DataW H)) (before : List MemPlace)
    (hval : ∀ (j : Nat) t v, Try.f3.params[j]? = some t → args[j]? = some v → Value.okWide Try.prog W .any base t v)
    (hW : DataW.Whole enc Try.prog Try.f3.params.toList Rows.fnConesSpec.vars false W args.toList ds gs before) :
    Calls Try.prog 3 args W fun e W' => ∃ v, e = .returned v ∧ Rows.fnConesSpec.post enc Try.prog Try.f3 false true false false W args v W' := by
  have hW' := hW
  obtain ⟨p, q, hA0, hV, rfl, hfz, hnd⟩ := hW
  have hA : DataW.TrodAll enc Try.prog W 0 (fun _ => true) true Try.f3.params.toList args.toList ds p := hA0
  rw [Try.params3] at hA hval
  obtain ⟨v0, vs0, d0, ds0, p0, q0, hargs, rfl, rfl, h0, r0⟩ := trodAll_cons hA
  obtain ⟨rfl, rfl, rfl⟩ := trodAll_nil r0
  obtain rfl : args = #[v0] := by cases args; simp_all
  obtain ⟨lA, lL, lC, rfl⟩ := okWide_slice Try.underlying22 (hval 0 22 v0 rfl rfl)
  obtain ⟨l, wl⟩ : ∃ zs : List Int, zs.length = lL ∧ Sl W (.slice lA lL lC) (numVals .u8 zs) ∧ ∀ z ∈ zs, (Lit.int .u8 z).wf = true := by
    obtain ⟨fuel, hf⟩ := h0
    exact nums_came Try.underlying22 Try.underlying5 (by kernel_rfl) hf
  refine (walk l _ _ _ W wl.1 wl.2.1 wl.2.2).mono fun e W' ⟨he, hb⟩ => ?_
  subst he
  exact ⟨_, rfl, law_post laidOut (by kernel_rfl) rfl Try.underlying4 rfl hW' (fun ds' h => by match ds', h with | [d0], _ => rfl) hb⟩


set_option maxRecDepth 100000 in
theorem lifted (os : Os) (started : os.Started) (H : Type) (enc : TypeId × Value → H) :
    ReturnsInHanded {} Try.checked os 3 .any (Rows.fnConesSpec.pre6 enc Try.prog Try.f3 Rows.fnConesRow.domain false) (Rows.fnConesSpec.post enc Try.prog Try.f3 false true false false) := by
  refine returnsInHanded_of_change (C := Try.checked) own started (by kernel_rfl) Try.func3
    (ChangeSpec.witness6 (enc := enc) (C := Try.checked) false ⟨#[], #[.slice none 0 0], []⟩ 8 (by kernel_rfl) (by kernel_rfl) (by kernel_rfl) (by kernel_rfl)) ?_
  intro W base args ds gs before hval hW _ _
  exact contract H enc W base args ds gs before hval hW

theorem said : Rows.FnConesSaid :=
  OpenClaim.holds_of_wide 3 Try.f3 rfl rfl rfl rfl rfl rfl rfl ⟨rfl, rfl, rfl, rfl, rfl⟩ rfl rfl rfl rfl rfl (by kernel_rfl) Try.func3 (by kernel_rfl)
    (of_decide_eq_true (by kernel_rfl)) (by unfold Func.isWrapper; first | (rw [if_pos (by decide +kernel)]; kernel_rfl) | (rw [if_neg (by decide +kernel)]; exact ⟨rfl, rfl⟩))
    (fun os started H enc _ => lifted os started H enc)
end Go.Proofs.Ytjijgagdaolkcaa.fnCones
