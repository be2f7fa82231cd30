/- FnPoints holds for every input. Conditions: none. -/
import Derived.Test.YtmogncpkdkdodaaPtG
import Derived.Test.YtmogncpkdkdodaaMax
import Derived.Test.YtmogncpkdkdodaaMbm
import Derived.Test.YtmogncpkdkdodaaMbj
import Derived.Test.YtmogncpkdkdodaaPtZ
import Derived.Test.YtmogncpkdkdodaaMac
import Derived.Test.YtmogncpkdkdodaaCode
import Derived.Test.YtmogncpkdkdodaaMas
import Derived.Test.YtmogncpkdkdodaaLaw
import Derived.Test.YtmogncpkdkdodaaRows
namespace Go.Proofs.Ytmogncpkdkdodaa.fnPoints
open Go.ChangeShapes Go.WideShapes Go.ChangeAt Go.RowKit Go.Lib
open Go.ChangeMaps (open_string shut_string)
set_option maxRecDepth 100000 in
set_option maxHeartbeats 400000 in
theorem walk_big (a : Option Addr) (n c : Nat) (hl : 1048576 < n) (w : World) :
    Calls Try.prog 3 #[.slice a n c] w fun e w' => e = .returned (.bool true) ∧ Below w.heap.size w w' := by
  have hd : decide ((1048576 : Int) < n) = true := by simp; omega
  go_enter Try.func3, Try.ntmps3
  go_wp2_with fail
  refine (big_any a n c _).mono ?_
  rintro e w1 ⟨rfl, rfl⟩
  rw [hd]
  go_wp2_with fail
  go_ret
  exact ⟨rfl, Below.refl _ _⟩
set_option linter.unusedVariables false in
set_option maxRecDepth 100000 in
set_option maxHeartbeats 6400000 in
theorem walk_small (a : Option Addr) (c : Nat) (zs : List Int) (w : World) (hc : CodeIn w a zs) :
    Calls Try.prog 3 #[.slice a zs.length c] w fun e w' => e = .returned (.bool true) ∧ Below w.heap.size w w' := by
  have hd : decide ((1048576 : Int) < zs.length) = false := by have := hc.1; simp; omega
  have HC := Lib.hid hc
  have HD := Lib.hid hd
  clear hc hd
  have B0 := Lib.hid (Below.refl w.heap.size w)
  go_enter Try.func3, Try.ntmps3
  go_wp2_with fail
  refine (big_any a zs.length c _).mono ?_
  rintro e w1 ⟨rfl, rfl⟩
  rw [HD.out]
  go_wp2_with fail
  refine (d_pointsin a c zs w _ B0.out HC.out).mono ?_
  rintro e w1 ⟨⟨v, r, rfl, fr, V, rfl, ho⟩, hb1⟩
  obtain ⟨xaR, xcR, rfl, _⟩ := ho.hs.shape
  have FR := Lib.hid fr
  clear fr
  have B1 := Lib.hid (B0.out.trans (hb1.mono B0.out.size))
  have S1 := Lib.hid hb1.size
  have R_1 := Lib.hid ho
  clear hb1 ho
  have hb2 := below1 w1 (.cells #[.int .i64 r.1, .slice xaR r.2.length xcR] 26)
  have B2 := Lib.hid (B1.out.trans (hb2.mono B1.out.size))
  have S2 := Lib.hid (alloc_lt w1 (.cells #[.int .i64 r.1, .slice xaR r.2.length xcR] 26))
  have R_2 := Lib.hid (R_1.out.below hb2)
  have BR_2 := Lib.hid (Bk.new w1 #[.int .i64 r.1, .slice xaR r.2.length xcR] 26)
  clear hb2 R_1
  obtain ⟨pl, hpl⟩ : ∃ q : List (List Int), ptsR r.1 r.2 = q := ⟨_, rfl⟩
  have CPI := Lib.hid (fun (v : Value) (W : World) (h : Rg W v r) => i_pointsin r v W h)
  have CPS := Lib.hid (fun (v : Value) (W : World) (h : Rg W v r) => s_pointsin r v W h)
  rw [hpl] at CPI CPS
  have HPL := Lib.hid hpl
  clear hpl
  obtain ⟨cc, hcc⟩ : ∃ q : Int, countR r.1 r.2 = q := ⟨_, rfl⟩
  have CCI := Lib.hid (fun (v : Value) (W : World) (h : Rg W v r) => i_countin r v W h)
  have CCS := Lib.hid (fun (v : Value) (W : World) (h : Rg W v r) => s_countin r v W h)
  rw [hcc] at CCI CCS
  clear hcc
  obtain ⟨⟨lBR0, lBR1⟩, -⟩ := BR_2.out.two
  go_wp2_with fail
  refine (CPI.out _ _ (rg_of r R_2.out)).mono ?_
  rintro e w3 ⟨⟨x, rfl, ho⟩, hb3⟩
  have B3 := Lib.hid (B2.out.trans (hb3.mono B2.out.size))
  have S3 := Lib.hid hb3.size
  have R_3 := Lib.hid (R_2.out.below hb3)
  have BR_3 := Lib.hid (BR_2.out.below hb3)
  have LST_3 := Lib.hid ho
  clear hb3 R_2 BR_2 ho
  clear lBR0 lBR1
  obtain ⟨la, lc, rfl, lm⟩ := LST_3.out.rw.shape
  unfold maxLen at lm
  go_wp2_with fail
  refine (d_leastin a c zs w _ B3.out HC.out).mono ?_
  rintro e w4 ⟨⟨v, v2, a2, zv, rfl, fa, ⟨V, rfl, ho⟩, hu⟩, hb4⟩
  obtain ⟨xaA, xcA, rfl, _⟩ := ho.hs.shape
  have FA := Lib.hid fa
  clear fa
  have B4 := Lib.hid (B3.out.trans (hb4.mono B3.out.size))
  have S4 := Lib.hid hb4.size
  have R_4 := Lib.hid (R_3.out.below hb4)
  have BR_4 := Lib.hid (BR_3.out.below hb4)
  have LST_4 := Lib.hid (LST_3.out.below hb4)
  have A_4 := Lib.hid ho
  have ZV_4 := Lib.hid hu
  clear hb4 R_3 BR_3 LST_3 ho hu
  have hb5 := below1 w4 (.cells #[.int .i64 a2.1, .slice xaA a2.2.length xcA] 26)
  have B5 := Lib.hid (B4.out.trans (hb5.mono B4.out.size))
  have S5 := Lib.hid (alloc_lt w4 (.cells #[.int .i64 a2.1, .slice xaA a2.2.length xcA] 26))
  have R_5 := Lib.hid (R_4.out.below hb5)
  have BR_5 := Lib.hid (BR_4.out.below hb5)
  have LST_5 := Lib.hid (LST_4.out.below hb5)
  have A_5 := Lib.hid (A_4.out.below hb5)
  have ZV_5 := Lib.hid (ZV_4.out.below hb5)
  have BA_5 := Lib.hid (Bk.new w4 #[.int .i64 a2.1, .slice xaA a2.2.length xcA] 26)
  clear hb5 R_4 BR_4 LST_4 A_4 ZV_4
  obtain ⟨p1, hp1⟩ : ∃ q : List Int × Bool, leastR 1 a2.1 a2.2 zv = q := ⟨_, rfl⟩
  have CLI := Lib.hid (fun (v u : Value) (W : World) (h : Rg W v a2) (h2 : Sl W u (intVals zv)) => i_leastin a2 zv v u W h h2)
  have CLS := Lib.hid (fun (v u : Value) (W : World) (h : Rg W v a2) (h2 : Sl W u (intVals zv)) => s_leastin a2 zv v u W h h2)
  rw [hp1] at CLI CLS
  have HP1 := Lib.hid hp1
  obtain ⟨p2, hp2⟩ : ∃ q : List Int × Bool, leastR (-1) a2.1 a2.2 zv = q := ⟨_, rfl⟩
  have CMI := Lib.hid (fun (v u : Value) (W : World) (h : Rg W v a2) (h2 : Sl W u (intVals zv)) => i_mostin a2 zv v u W h h2)
  have CMS := Lib.hid (fun (v u : Value) (W : World) (h : Rg W v a2) (h2 : Sl W u (intVals zv)) => s_mostin a2 zv v u W h h2)
  rw [hp2] at CMI CMS
  have HP2 := Lib.hid hp2
  obtain ⟨x1, bl⟩ := p1
  obtain ⟨x2, bm⟩ := p2
  obtain rfl : bm = bl := by have h := least_both (n := a2.1) (hs := a2.2) (a := zv); rw [hp1, hp2] at h; exact h
  clear hp1 hp2
  obtain ⟨⟨lBA0, lBA1⟩, -⟩ := BA_5.out.two
  go_wp2_with fail
  refine (CLI.out _ _ _ (rg_of a2 A_5.out) ZV_5.out.sl).mono ?_
  rintro e w6 ⟨⟨x, rfl, ho⟩, hb6⟩
  have B6 := Lib.hid (B5.out.trans (hb6.mono B5.out.size))
  have S6 := Lib.hid hb6.size
  have R_6 := Lib.hid (R_5.out.below hb6)
  have BR_6 := Lib.hid (BR_5.out.below hb6)
  have LST_6 := Lib.hid (LST_5.out.below hb6)
  have A_6 := Lib.hid (A_5.out.below hb6)
  have ZV_6 := Lib.hid (ZV_5.out.below hb6)
  have BA_6 := Lib.hid (BA_5.out.below hb6)
  have X_6 := Lib.hid ho
  clear hb6 R_5 BR_5 LST_5 A_5 ZV_5 BA_5 ho
  clear lBA0 lBA1
  obtain ⟨⟨lBA0, lBA1⟩, -⟩ := BA_6.out.two
  go_wp2_with fail
  refine (CLS.out _ _ _ (rg_of a2 A_6.out) ZV_6.out.sl).mono ?_
  rintro e w7 ⟨⟨x, rfl, ho⟩, hb7⟩
  have B7 := Lib.hid (B6.out.trans (hb7.mono B6.out.size))
  have S7 := Lib.hid hb7.size
  have R_7 := Lib.hid (R_6.out.below hb7)
  have BR_7 := Lib.hid (BR_6.out.below hb7)
  have LST_7 := Lib.hid (LST_6.out.below hb7)
  have A_7 := Lib.hid (A_6.out.below hb7)
  have ZV_7 := Lib.hid (ZV_6.out.below hb7)
  have BA_7 := Lib.hid (BA_6.out.below hb7)
  have X_7 := Lib.hid (X_6.out.below hb7)
  have Y_7 := Lib.hid ho
  clear hb7 R_6 BR_6 LST_6 A_6 ZV_6 BA_6 X_6 ho
  clear lBA0 lBA1
  obtain ⟨⟨lBA0, lBA1⟩, -⟩ := BA_7.out.two
  go_wp2_with fail
  refine (CMI.out _ _ _ (rg_of a2 A_7.out) ZV_7.out.sl).mono ?_
  rintro e w8 ⟨⟨x, rfl, ho⟩, hb8⟩
  have B8 := Lib.hid (B7.out.trans (hb8.mono B7.out.size))
  have S8 := Lib.hid hb8.size
  have R_8 := Lib.hid (R_7.out.below hb8)
  have BR_8 := Lib.hid (BR_7.out.below hb8)
  have LST_8 := Lib.hid (LST_7.out.below hb8)
  have A_8 := Lib.hid (A_7.out.below hb8)
  have ZV_8 := Lib.hid (ZV_7.out.below hb8)
  have BA_8 := Lib.hid (BA_7.out.below hb8)
  have X_8 := Lib.hid (X_7.out.below hb8)
  have Y_8 := Lib.hid (Y_7.out.below hb8)
  have Z_8 := Lib.hid ho
  clear hb8 R_7 BR_7 LST_7 A_7 ZV_7 BA_7 X_7 Y_7 ho
  clear lBA0 lBA1
  obtain ⟨⟨lBA0, lBA1⟩, -⟩ := BA_8.out.two
  go_wp2_with fail
  refine (CMS.out _ _ _ (rg_of a2 A_8.out) ZV_8.out.sl).mono ?_
  rintro e w9 ⟨⟨x, rfl, ho⟩, hb9⟩
  have B9 := Lib.hid (B8.out.trans (hb9.mono B8.out.size))
  have S9 := Lib.hid hb9.size
  have R_9 := Lib.hid (R_8.out.below hb9)
  have BR_9 := Lib.hid (BR_8.out.below hb9)
  have LST_9 := Lib.hid (LST_8.out.below hb9)
  have A_9 := Lib.hid (A_8.out.below hb9)
  have ZV_9 := Lib.hid (ZV_8.out.below hb9)
  have BA_9 := Lib.hid (BA_8.out.below hb9)
  have X_9 := Lib.hid (X_8.out.below hb9)
  have Y_9 := Lib.hid (Y_8.out.below hb9)
  have Z_9 := Lib.hid (Z_8.out.below hb9)
  have WW_9 := Lib.hid ho
  clear hb9 R_8 BR_8 LST_8 A_8 ZV_8 BA_8 X_8 Y_8 Z_8 ho
  clear lBA0 lBA1
  go_wp2_with fail
  refine (d_sliceof a c zs w _ B9.out HC.out).mono ?_
  rintro e w10 ⟨⟨v, s, k, n, rfl, fs, ⟨V, rfl, ho⟩⟩, hb10⟩
  obtain ⟨xaS, xcS, rfl, _⟩ := ho.hs.shape
  have FS := Lib.hid fs
  clear fs
  have B10 := Lib.hid (B9.out.trans (hb10.mono B9.out.size))
  have S10 := Lib.hid hb10.size
  have R_10 := Lib.hid (R_9.out.below hb10)
  have BR_10 := Lib.hid (BR_9.out.below hb10)
  have LST_10 := Lib.hid (LST_9.out.below hb10)
  have A_10 := Lib.hid (A_9.out.below hb10)
  have ZV_10 := Lib.hid (ZV_9.out.below hb10)
  have BA_10 := Lib.hid (BA_9.out.below hb10)
  have X_10 := Lib.hid (X_9.out.below hb10)
  have Y_10 := Lib.hid (Y_9.out.below hb10)
  have Z_10 := Lib.hid (Z_9.out.below hb10)
  have WW_10 := Lib.hid (WW_9.out.below hb10)
  have S_10 := Lib.hid ho
  clear hb10 R_9 BR_9 LST_9 A_9 ZV_9 BA_9 X_9 Y_9 Z_9 WW_9 ho
  have hb11 := below1 w10 (.cells #[.int .i64 s.1, .slice xaS s.2.length xcS] 26)
  have B11 := Lib.hid (B10.out.trans (hb11.mono B10.out.size))
  have S11 := Lib.hid (alloc_lt w10 (.cells #[.int .i64 s.1, .slice xaS s.2.length xcS] 26))
  have R_11 := Lib.hid (R_10.out.below hb11)
  have BR_11 := Lib.hid (BR_10.out.below hb11)
  have LST_11 := Lib.hid (LST_10.out.below hb11)
  have A_11 := Lib.hid (A_10.out.below hb11)
  have ZV_11 := Lib.hid (ZV_10.out.below hb11)
  have BA_11 := Lib.hid (BA_10.out.below hb11)
  have X_11 := Lib.hid (X_10.out.below hb11)
  have Y_11 := Lib.hid (Y_10.out.below hb11)
  have Z_11 := Lib.hid (Z_10.out.below hb11)
  have WW_11 := Lib.hid (WW_10.out.below hb11)
  have S_11 := Lib.hid (S_10.out.below hb11)
  have BS_11 := Lib.hid (Bk.new w10 #[.int .i64 s.1, .slice xaS s.2.length xcS] 26)
  clear hb11 R_10 BR_10 LST_10 A_10 ZV_10 BA_10 X_10 Y_10 Z_10 WW_10 S_10
  obtain ⟨q, hq⟩ : ∃ q : Rgn × Bool, sliceR s.1 s.2 k n = q := ⟨_, rfl⟩
  have CI := Lib.hid (fun (v : Value) (W : World) (h : Rg W v s) => i_sliceof s k n v W h)
  have CS := Lib.hid (fun (v : Value) (W : World) (h : Rg W v s) => s_sliceof s k n v W h)
  rw [hq] at CI CS
  clear hq
  obtain ⟨⟨lBS0, lBS1⟩, -⟩ := BS_11.out.two
  go_wp2_with fail
  refine (CI.out _ _ (rg_of s S_11.out)).mono ?_
  rintro e w12 ⟨⟨v, rfl, V, rfl, ho⟩, hb12⟩
  obtain ⟨xaT, xcT, rfl, _⟩ := ho.hs.shape
  clear lBS0 lBS1
  have B12 := Lib.hid (B11.out.trans (hb12.mono B11.out.size))
  have S12 := Lib.hid hb12.size
  have R_12 := Lib.hid (R_11.out.below hb12)
  have BR_12 := Lib.hid (BR_11.out.below hb12)
  have LST_12 := Lib.hid (LST_11.out.below hb12)
  have A_12 := Lib.hid (A_11.out.below hb12)
  have ZV_12 := Lib.hid (ZV_11.out.below hb12)
  have BA_12 := Lib.hid (BA_11.out.below hb12)
  have X_12 := Lib.hid (X_11.out.below hb12)
  have Y_12 := Lib.hid (Y_11.out.below hb12)
  have Z_12 := Lib.hid (Z_11.out.below hb12)
  have WW_12 := Lib.hid (WW_11.out.below hb12)
  have S_12 := Lib.hid (S_11.out.below hb12)
  have BS_12 := Lib.hid (BS_11.out.below hb12)
  have T_12 := Lib.hid ho
  clear hb12 R_11 BR_11 LST_11 A_11 ZV_11 BA_11 X_11 Y_11 Z_11 WW_11 S_11 BS_11 ho
  have hb13 := below1 w12 (.cells #[.int .i64 q.1.1, .slice xaT q.1.2.length xcT] 26)
  have B13 := Lib.hid (B12.out.trans (hb13.mono B12.out.size))
  have S13 := Lib.hid (alloc_lt w12 (.cells #[.int .i64 q.1.1, .slice xaT q.1.2.length xcT] 26))
  have R_13 := Lib.hid (R_12.out.below hb13)
  have BR_13 := Lib.hid (BR_12.out.below hb13)
  have LST_13 := Lib.hid (LST_12.out.below hb13)
  have A_13 := Lib.hid (A_12.out.below hb13)
  have ZV_13 := Lib.hid (ZV_12.out.below hb13)
  have BA_13 := Lib.hid (BA_12.out.below hb13)
  have X_13 := Lib.hid (X_12.out.below hb13)
  have Y_13 := Lib.hid (Y_12.out.below hb13)
  have Z_13 := Lib.hid (Z_12.out.below hb13)
  have WW_13 := Lib.hid (WW_12.out.below hb13)
  have S_13 := Lib.hid (S_12.out.below hb13)
  have BS_13 := Lib.hid (BS_12.out.below hb13)
  have T_13 := Lib.hid (T_12.out.below hb13)
  have BT_13 := Lib.hid (Bk.new w12 #[.int .i64 q.1.1, .slice xaT q.1.2.length xcT] 26)
  clear hb13 R_12 BR_12 LST_12 A_12 ZV_12 BA_12 X_12 Y_12 Z_12 WW_12 S_12 BS_12 T_12
  obtain ⟨⟨lBS0, lBS1⟩, -⟩ := BS_13.out.two
  go_wp2_with fail
  refine (CS.out _ _ (rg_of s S_13.out)).mono ?_
  rintro e w14 ⟨⟨v, rfl, V, rfl, ho⟩, hb14⟩
  obtain ⟨xaU, xcU, rfl, _⟩ := ho.hs.shape
  clear lBS0 lBS1
  have B14 := Lib.hid (B13.out.trans (hb14.mono B13.out.size))
  have S14 := Lib.hid hb14.size
  have R_14 := Lib.hid (R_13.out.below hb14)
  have BR_14 := Lib.hid (BR_13.out.below hb14)
  have LST_14 := Lib.hid (LST_13.out.below hb14)
  have A_14 := Lib.hid (A_13.out.below hb14)
  have ZV_14 := Lib.hid (ZV_13.out.below hb14)
  have BA_14 := Lib.hid (BA_13.out.below hb14)
  have X_14 := Lib.hid (X_13.out.below hb14)
  have Y_14 := Lib.hid (Y_13.out.below hb14)
  have Z_14 := Lib.hid (Z_13.out.below hb14)
  have WW_14 := Lib.hid (WW_13.out.below hb14)
  have S_14 := Lib.hid (S_13.out.below hb14)
  have BS_14 := Lib.hid (BS_13.out.below hb14)
  have T_14 := Lib.hid (T_13.out.below hb14)
  have BT_14 := Lib.hid (BT_13.out.below hb14)
  have U_14 := Lib.hid ho
  clear hb14 R_13 BR_13 LST_13 A_13 ZV_13 BA_13 X_13 Y_13 Z_13 WW_13 S_13 BS_13 T_13 BT_13 ho
  have hb15 := below1 w14 (.cells #[.int .i64 q.1.1, .slice xaU q.1.2.length xcU] 26)
  have B15 := Lib.hid (B14.out.trans (hb15.mono B14.out.size))
  have S15 := Lib.hid (alloc_lt w14 (.cells #[.int .i64 q.1.1, .slice xaU q.1.2.length xcU] 26))
  have R_15 := Lib.hid (R_14.out.below hb15)
  have BR_15 := Lib.hid (BR_14.out.below hb15)
  have LST_15 := Lib.hid (LST_14.out.below hb15)
  have A_15 := Lib.hid (A_14.out.below hb15)
  have ZV_15 := Lib.hid (ZV_14.out.below hb15)
  have BA_15 := Lib.hid (BA_14.out.below hb15)
  have X_15 := Lib.hid (X_14.out.below hb15)
  have Y_15 := Lib.hid (Y_14.out.below hb15)
  have Z_15 := Lib.hid (Z_14.out.below hb15)
  have WW_15 := Lib.hid (WW_14.out.below hb15)
  have S_15 := Lib.hid (S_14.out.below hb15)
  have BS_15 := Lib.hid (BS_14.out.below hb15)
  have T_15 := Lib.hid (T_14.out.below hb15)
  have BT_15 := Lib.hid (BT_14.out.below hb15)
  have U_15 := Lib.hid (U_14.out.below hb15)
  have BU_15 := Lib.hid (Bk.new w14 #[.int .i64 q.1.1, .slice xaU q.1.2.length xcU] 26)
  clear hb15 R_14 BR_14 LST_14 A_14 ZV_14 BA_14 X_14 Y_14 Z_14 WW_14 S_14 BS_14 T_14 BT_14 U_14
  clear S_15
  clear BS_15
  have DR := Lib.hid BR_15.out.two.1
  have LR := Lib.hid BR_15.out.lt
  obtain ⟨lR0, lR1⟩ := DR.out
  have DT := Lib.hid BT_15.out.two.1
  have LT := Lib.hid BT_15.out.lt
  obtain ⟨lT0, lT1⟩ := DT.out
  have DU := Lib.hid BU_15.out.two.1
  have LU := Lib.hid BU_15.out.lt
  obtain ⟨lU0, lU1⟩ := DU.out
  have EQ := Lib.hid (show eqR q.1.1 q.1.2 q.1.1 q.1.2 = true from eqR_t (r := q.1) (s := q.1) rfl rfl)
  go_wp2_with fail
  go_region_held3 (fun w' => w'.cell? ⟨w1.heap.size, 0, none⟩ = some (.int .i64 r.1) ∧ w'.cell? ⟨w1.heap.size, 1, none⟩ = some (.slice xaR r.2.length xcR) ∧ w'.cell? ⟨w12.heap.size, 0, none⟩ = some (.int .i64 q.1.1) ∧ w'.cell? ⟨w12.heap.size, 1, none⟩ = some (.slice xaT q.1.2.length xcT) ∧ w'.cell? ⟨w14.heap.size, 0, none⟩ = some (.int .i64 q.1.1) ∧ w'.cell? ⟨w14.heap.size, 1, none⟩ = some (.slice xaU q.1.2.length xcU) ∧ Below (w14.alloc (.cells #[.int .i64 q.1.1, .slice xaU q.1.2.length xcU] 26)).heap.size (w14.alloc (.cells #[.int .i64 q.1.1, .slice xaU q.1.2.length xcU] 26)) w')
    (first | with_reducible exact keep6D lR0 lR1 lT0 lT1 lU0 lU1 (Below.refl _ _) | (go_split_ands; with_reducible exact keep6E LR.out LR.out LT.out LT.out LU.out LU.out (by assumption) (by assumption) (by assumption) (by assumption) (by assumption) (by assumption) (by assumption) (by assumption)) | go_keep)
    (first
      | (go_at_call 20; (with_reducible refine (CPS.out _ _ (rg_of r (R_15.out.below ((Below.refl _ _).drew)))).mono ?_); rintro e w100 ⟨⟨y1, rfl, ho1⟩, hb1⟩; have c1 := drew_below hb1)
      | (go_at_call 19; (with_reducible refine (same_rows pl _ _ _ (LST_15.out.below c1).rw ho1.rw).mono ?_); rintro e w101 ⟨rfl, hb2⟩; have c2 := c1.trans (hb2.mono c1.size))
      | (go_at_call 21; (with_reducible refine (CCI.out _ _ (rg_of r (R_15.out.below c2))).mono ?_); rintro e w102 ⟨rfl, hb3⟩; have c3 := c2.trans (hb3.mono c2.size))
      | (go_at_call 22; (with_reducible refine (CCS.out _ _ (rg_of r (R_15.out.below c3))).mono ?_); rintro e w103 ⟨rfl, hb4⟩; have c4 := c3.trans (hb4.mono c3.size))
      | (go_at_call 23; (with_reducible refine (same_int x1 _ _ _ (X_15.out.below c4).sl (Y_15.out.below c4).sl).mono ?_); rintro e w104 ⟨rfl, hb5⟩; have c5 := c4.trans (hb5.mono c4.size))
      | (go_at_call 23; (with_reducible refine (same_int x2 _ _ _ (Z_15.out.below c5).sl (WW_15.out.below c5).sl).mono ?_); rintro e w105 ⟨rfl, hb6⟩; have c6 := c5.trans (hb6.mono c5.size))
      | (go_at_call 24; (with_reducible refine (s_eqreg q.1 q.1 _ _ _ (rg_of q.1 (T_15.out.below c6)) (rg_of q.1 (U_15.out.below c6))).mono ?_); rintro e w106 ⟨rfl, hb7⟩; rw [EQ.out])
    )
  rename_i hH
  obtain ⟨w16, hb16⟩ : ∃ Wq, Below (w14.alloc (.cells #[.int .i64 q.1.1, .slice xaU q.1.2.length xcU] 26)).heap.size (w14.alloc (.cells #[.int .i64 q.1.1, .slice xaU q.1.2.length xcU] 26)) Wq ∧ Wq = w106 := ⟨w106, hH.2.2.2.2.2.2, rfl⟩
  obtain ⟨hb16, rfl⟩ := hb16
  clear hH lR0 lR1 lT0 lT1 lU0 lU1 DR LR DT LT DU LU hb1 hb2 hb3 hb4 hb5 hb6 hb7 ho1 c1 c2 c3 c4 c5 c6
  have B16 := Lib.hid (B15.out.trans (hb16.mono B15.out.size))
  have S16 := Lib.hid hb16.size
  have R_16 := Lib.hid (R_15.out.below hb16)
  have BR_16 := Lib.hid (BR_15.out.below hb16)
  have LST_16 := Lib.hid (LST_15.out.below hb16)
  have A_16 := Lib.hid (A_15.out.below hb16)
  have ZV_16 := Lib.hid (ZV_15.out.below hb16)
  have BA_16 := Lib.hid (BA_15.out.below hb16)
  have X_16 := Lib.hid (X_15.out.below hb16)
  have Y_16 := Lib.hid (Y_15.out.below hb16)
  have Z_16 := Lib.hid (Z_15.out.below hb16)
  have WW_16 := Lib.hid (WW_15.out.below hb16)
  have T_16 := Lib.hid (T_15.out.below hb16)
  have BT_16 := Lib.hid (BT_15.out.below hb16)
  have U_16 := Lib.hid (U_15.out.below hb16)
  have BU_16 := Lib.hid (BU_15.out.below hb16)
  clear hb16 R_15 BR_15 LST_15 A_15 ZV_15 BA_15 X_15 Y_15 Z_15 WW_15 T_15 BT_15 U_15 BU_15
  clear Y_16
  clear WW_16
  clear T_16
  clear BT_16
  clear U_16
  clear BU_16
  by_cases h1 : bm = true
  · subst h1
    have hl := least_is (s := 1) (n := a2.1) (hs := a2.2) (a := zv) (by rw [HP1.out])
    have hm := least_is (s := -1) (n := a2.1) (hs := a2.2) (a := zv) (by rw [HP2.out])
    have hlm := least_most (n := a2.1) (hs := a2.2) (a := zv) (by rw [HP1.out])
    rw [HP1.out] at hl hlm
    rw [HP2.out] at hm hlm
    simp only at hl hm hlm
    obtain ⟨hp, hx, -⟩ := hl
    obtain ⟨-, hz, -⟩ := hm
    obtain ⟨hr, -, hlen⟩ := ptR_t hp
    simp only at hr hlen
    obtain ⟨hx1, hx2, hx3⟩ := pts_has hr hx
    obtain ⟨hz1, hz2, hz3⟩ := pts_has hr hz
    have hxl : x1.length = zv.length := by omega
    have hzl : x2.length = zv.length := by omega
    have hz5 := FA.out.2.1
    have CD1 := Lib.hid (fun (u v : Value) (W : World) (h1 : Sl W u (intVals x1)) (h2 : Sl W v (intVals zv)) => dot_of x1 zv hxl (by omega) 6 4 (by omega) (by omega) hx2 FA.out.2.2 u v W h1 h2)
    have CD2 := Lib.hid (fun (u v : Value) (W : World) (h1 : Sl W u (intVals x2)) (h2 : Sl W v (intVals zv)) => dot_of x2 zv hzl (by omega) 6 4 (by omega) (by omega) hz2 FA.out.2.2 u v W h1 h2)
    obtain ⟨d1, hd1⟩ : ∃ d : Int, dotL x1 zv = d := ⟨_, rfl⟩
    obtain ⟨d2, hd2⟩ : ∃ d : Int, dotL x2 zv = d := ⟨_, rfl⟩
    rw [hd1] at CD1 hlm
    rw [hd2] at CD2 hlm
    have hnd : ¬ d2 < d1 := by omega
    have HX3 := Lib.hid hx3
    have HZ3 := Lib.hid hz3
    clear hd1 hd2 hx hz hx1 hx2 hx3 hz1 hz2 hz3 hp hr hlen hlm hxl hzl
    go_wp2_with fail
    refine (CD1.out _ _ _ X_16.out.sl ZV_16.out.sl).mono ?_
    rintro e w17 ⟨rfl, hb17⟩
    have B17 := Lib.hid (B16.out.trans (hb17.mono B16.out.size))
    have S17 := Lib.hid hb17.size
    have R_17 := Lib.hid (R_16.out.below hb17)
    have BR_17 := Lib.hid (BR_16.out.below hb17)
    have LST_17 := Lib.hid (LST_16.out.below hb17)
    have A_17 := Lib.hid (A_16.out.below hb17)
    have ZV_17 := Lib.hid (ZV_16.out.below hb17)
    have BA_17 := Lib.hid (BA_16.out.below hb17)
    have X_17 := Lib.hid (X_16.out.below hb17)
    have Z_17 := Lib.hid (Z_16.out.below hb17)
    clear hb17 R_16 BR_16 LST_16 A_16 ZV_16 BA_16 X_16 Z_16
    go_wp2_with fail
    refine (CD2.out _ _ _ Z_17.out.sl ZV_17.out.sl).mono ?_
    rintro e w18 ⟨rfl, hb18⟩
    have B18 := Lib.hid (B17.out.trans (hb18.mono B17.out.size))
    have S18 := Lib.hid hb18.size
    have R_18 := Lib.hid (R_17.out.below hb18)
    have BR_18 := Lib.hid (BR_17.out.below hb18)
    have LST_18 := Lib.hid (LST_17.out.below hb18)
    have A_18 := Lib.hid (A_17.out.below hb18)
    have ZV_18 := Lib.hid (ZV_17.out.below hb18)
    have BA_18 := Lib.hid (BA_17.out.below hb18)
    have X_18 := Lib.hid (X_17.out.below hb18)
    have Z_18 := Lib.hid (Z_17.out.below hb18)
    clear hb18 R_17 BR_17 LST_17 A_17 ZV_17 BA_17 X_17 Z_17
    obtain ⟨⟨lBA0, lBA1⟩, -⟩ := BA_18.out.two
    go_wp2_with fail
    refine (i_hasp a2 x1 _ _ _ (rg_of a2 A_18.out) X_18.out.sl).mono ?_
    rintro e w19 ⟨rfl, hb19⟩
    rw [HX3.out]
    have B19 := Lib.hid (B18.out.trans (hb19.mono B18.out.size))
    have S19 := Lib.hid hb19.size
    have R_19 := Lib.hid (R_18.out.below hb19)
    have BR_19 := Lib.hid (BR_18.out.below hb19)
    have LST_19 := Lib.hid (LST_18.out.below hb19)
    have A_19 := Lib.hid (A_18.out.below hb19)
    have ZV_19 := Lib.hid (ZV_18.out.below hb19)
    have BA_19 := Lib.hid (BA_18.out.below hb19)
    have X_19 := Lib.hid (X_18.out.below hb19)
    have Z_19 := Lib.hid (Z_18.out.below hb19)
    clear hb19 R_18 BR_18 LST_18 A_18 ZV_18 BA_18 X_18 Z_18
    clear lBA0 lBA1
    obtain ⟨⟨lBA0, lBA1⟩, -⟩ := BA_19.out.two
    go_wp2_with fail
    refine (i_hasp a2 x2 _ _ _ (rg_of a2 A_19.out) Z_19.out.sl).mono ?_
    rintro e w20 ⟨rfl, hb20⟩
    rw [HZ3.out]
    have B20 := Lib.hid (B19.out.trans (hb20.mono B19.out.size))
    have S20 := Lib.hid hb20.size
    have R_20 := Lib.hid (R_19.out.below hb20)
    have BR_20 := Lib.hid (BR_19.out.below hb20)
    have LST_20 := Lib.hid (LST_19.out.below hb20)
    have A_20 := Lib.hid (A_19.out.below hb20)
    have ZV_20 := Lib.hid (ZV_19.out.below hb20)
    have BA_20 := Lib.hid (BA_19.out.below hb20)
    have X_20 := Lib.hid (X_19.out.below hb20)
    have Z_20 := Lib.hid (Z_19.out.below hb20)
    clear hb20 R_19 BR_19 LST_19 A_19 ZV_19 BA_19 X_19 Z_19
    clear lBA0 lBA1
    clear X_20
    clear Z_20
    clear ZV_20
    clear A_20
    clear BA_20
    by_cases h2 : regOk r.1 r.2 = true
    · have HRK := Lib.hid h2
      clear h2
      obtain ⟨⟨lBR0, lBR1⟩, -⟩ := BR_20.out.two
      go_wp2_with fail
      refine (s_isreg r _ _ (rg_of r R_20.out)).mono ?_
      rintro e w21 ⟨rfl, hb21⟩
      rw [HRK.out]
      have B21 := Lib.hid (B20.out.trans (hb21.mono B20.out.size))
      have S21 := Lib.hid hb21.size
      have R_21 := Lib.hid (R_20.out.below hb21)
      have BR_21 := Lib.hid (BR_20.out.below hb21)
      have LST_21 := Lib.hid (LST_20.out.below hb21)
      clear hb21 R_20 BR_20 LST_20
      clear lBR0 lBR1
      obtain ⟨⟨lBR0, lBR1⟩, -⟩ := BR_21.out.two
      by_cases h3 : r.1 < 2
      · go_wp2_with fail
        go_ret
        exact ⟨rfl, B21.out⟩
      · have R8 := Lib.hid (regOk_t HRK.out)
        obtain ⟨m, hm⟩ : ∃ m : Nat, r.1 = ((m + 1 : Nat) : Int) := ⟨(r.1 - 1).toNat, by omega⟩
        have HM := Lib.hid hm
        have hm1 : 1 ≤ m := by omega
        have hm2 : m ≤ 2 := by have := R8.out.2.1; omega
        have HPT := Lib.hid (show sumTo m r.2 13 = pl.length by rw [← HPL.out, ptsR_t HRK.out, HM.out, sumTo_all])
        have HRM := Lib.hid (show regOk ((m + 1 : Nat) : Int) r.2 = true by rw [← HM.out]; exact HRK.out)
        clear hm
        go_wp2
        go_loopw [22, 23] (fun s i wr => ∃ j : Nat, j ≤ 13 ∧ i = .int .i64 ((j : Int) - 6) ∧ s = .int .i64 (sumTo m r.2 j : Nat) ∧ Below w21.heap.size w21 wr) (fun _ i _ => (7 - RowKit.intOf i).toNat)
        case atStart => exact ⟨0, Nat.zero_le _, rfl, rfl, Below.refl _ _⟩
        case round =>
          obtain ⟨j, hj, rfl, rfl, hbr⟩ := hrel
          rename World => wo
          have HBr := Lib.hid hbr
          have HA := Lib.hid (B21.out.trans (hbr.mono B21.out.size))
          have HBR := Lib.hid (BR_21.out.below hbr)
          have HOR := Lib.hid (R_21.out.below hbr)
          clear hbr
          obtain ⟨⟨l0, l1⟩, -⟩ := HBR.out.two
          by_cases hlt : j < 13
          · have i1 : ((j : Int) - 6) ≤ 6 := by omega
            have sl1 := sumTo_le hm2 r.2 j hj
            have sl2 := cntAt_le hm2 r.2 ((j : Int) - 6)
            have SS := Lib.hid (sumTo_succ (n := m) (hs := r.2) hlt)
            obtain ⟨q', hq'⟩ : ∃ q : Rgn × Bool, sliceR r.1 r.2 0 ((j : Int) - 6) = q := ⟨_, rfl⟩
            have CSI := Lib.hid (fun (v : Value) (W : World) (h : Rg W v r) => i_sliceof r 0 ((j : Int) - 6) v W h)
            have CSS := Lib.hid (fun (v : Value) (W : World) (h : Rg W v r) => s_sliceof r 0 ((j : Int) - 6) v W h)
            rw [hq'] at CSI CSS
            have HQ' := Lib.hid hq'
            clear hq'
            obtain ⟨qr, qb⟩ := q'
            go_wp2_with fail
            refine (CSI.out _ _ (rg_of r HOR.out)).mono ?_
            rintro e wA ⟨⟨v, rfl, V, rfl, ho⟩, hb1⟩
            obtain ⟨pa, pc, rfl, _⟩ := ho.hs.shape
            have NA := Lib.hid (below1 wA (.cells #[.int .i64 qr.1, .slice pa qr.2.length pc] 26))
            have HB1 := Lib.hid (HBr.out.trans (hb1.mono HBr.out.size))
            have HB2 := Lib.hid (HB1.out.trans (NA.out.mono HB1.out.size))
            have KB := Lib.hid ((HBR.out.below hb1).alloc (.cells #[.int .i64 qr.1, .slice pa qr.2.length pc] 26))
            have KR := Lib.hid ((HOR.out.below hb1).below NA.out)
            have KL := Lib.hid (HBR.out.below hb1).lt
            have KA := Lib.hid (HBR.out.below hb1)
            have HO := Lib.hid (ho.below NA.out)
            have HA2 := Lib.hid (B21.out.trans (HB2.out.mono B21.out.size))
            clear hb1 ho l0 l1
            have kl := KL.out
            have hne : ¬ w1.heap.size = wA.heap.size := by omega
            cases qb with
            | true =>
              have HCN := Lib.hid (show countR qr.1 qr.2 = (cntAt m r.2 ((j : Int) - 6) : Nat) by
                have h := cnt_ok (n := m) (hs := r.2) (x := (j : Int) - 6) HRM.out (by rw [← HM.out, HQ'.out])
                rw [← HM.out, HQ'.out] at h
                simp only at h
                rw [h.1]; exact h.2)
              have CCN := Lib.hid (fun (v : Value) (W : World) (h : Rg W v qr) => i_countin qr v W h)
              rw [HCN.out] at CCN
              go_wp2_with fail
              refine (CCN.out _ _ (rg_of qr HO.out)).mono ?_
              rintro e wB ⟨rfl, hb2⟩
              have HB3 := Lib.hid (HB2.out.trans (hb2.mono HB2.out.size))
              clear hb2
              go_wp2
              exact ⟨⟨j + 1, by omega, int_eq (by omega), by rw [SS.out]; exact int_eq (by omega), HB3.out⟩, by simp [RowKit.intOf]; omega⟩
            | false =>
              obtain ⟨⟨l0, l1⟩, -⟩ := KA.out.two
              go_wp2_with fail
              refine (CSS.out _ _ (rg_of r KR.out)).mono ?_
              rintro e wC ⟨⟨v, rfl, V2, rfl, ho2⟩, hb3⟩
              obtain ⟨pa2, pc2, rfl, _⟩ := ho2.hs.shape
              have NC := Lib.hid (below1 wC (.cells #[.int .i64 qr.1, .slice pa2 qr.2.length pc2] 26))
              have HB3 := Lib.hid (HB2.out.trans (hb3.mono HB2.out.size))
              have HB4 := Lib.hid (HB3.out.trans (NC.out.mono HB3.out.size))
              have KB4 := Lib.hid ((KB.out.below hb3).below NC.out)
              have KR4 := Lib.hid ((KR.out.below hb3).below NC.out)
              have HA4 := Lib.hid (B21.out.trans (HB4.out.mono B21.out.size))
              have H0 := Lib.hid (show bigB r.2 = false → cntAt m r.2 ((j : Int) - 6) = 0 from fun hbig => cnt_none HRM.out hm1 (by omega) (bigB_no hbig) (by rw [← HM.out, HQ'.out]))
              have hrl := R8.out.2.2.1
              have HBD := Lib.hid (fun (k : Nat) (hk : k < r.2.length) => show -4611686018427387904 ≤ r.2[k].2 ∧ r.2[k].2 ≤ 4611686018427387904 from by have := halfOk_t (R8.out.2.2.2 k hk); omega)
              have HS4 := Lib.hid KR4.out.hs
              clear hb3 ho2 l0 l1 hne kl
              go_wp2
              refine wgen ?_
              intro wD hWD
              have HBD4 := Lib.hid HB4.out
              rw [← hWD] at HB4 HA4 KB4 HS4
              clear hWD HBD4
              go_loopw [28, 29] (fun b q wr => ∃ k : Nat, k ≤ r.2.length ∧ q = .int .i64 k ∧ b = .bool (bigB (r.2.take k)) ∧ Below wD.heap.size wD wr) (fun _ q _ => r.2.length - (RowKit.intOf q).toNat)
              case atStart => exact ⟨0, Nat.zero_le _, rfl, rfl, Below.refl _ _⟩
              case round =>
                obtain ⟨k, hk, rfl, rfl, hbq⟩ := hrel
                rename World => wq
                have HQ := Lib.hid hbq
                obtain ⟨⟨l0, l1⟩, -⟩ := (KB4.out.below hbq).two
                have HSq := Lib.hid (HS4.out.below hbq)
                have HBq := Lib.hid (HB4.out.trans (hbq.mono HB4.out.size))
                clear hbq
                by_cases hltk : k < r.2.length
                · have BS := Lib.hid (bigB_succ hltk)
                  obtain ⟨b, off, y, rfl, _, hb2, hcell, hcell1, _⟩ := HSq.out.half k hltk rfl
                  have i2 : (0 : Int) ≤ (k : Int) := by omega
                  have i3 : (k : Int) < (r.2.length : Int) := by omega
                  obtain ⟨bb, hbb⟩ : ∃ b : Bool, bigB (r.2.take k) = b := ⟨_, rfl⟩
                  rw [hbb] at BS
                  rw [hbb]
                  clear hbb
                  cases bb with
                  | true =>
                    go_wp2_with fail
                    exact ⟨⟨k + 1, by omega, by go_num, by rw [BS.out]; rfl, HQ.out⟩, by simp [RowKit.intOf]; omega⟩
                  | false =>
                    go_wp2_with fail
                    refine (size_of _ (HBD.out k hltk) _).mono ?_
                    rintro e wE ⟨rfl, hbE⟩
                    have HE := Lib.hid (HQ.out.trans (hbE.mono HQ.out.size))
                    clear hbE l0 l1 hcell hcell1
                    by_cases h60 : 60 < (r.2[k].2.natAbs : Int)
                    · have hd : decide (60 < (r.2[k].2.natAbs : Int)) = true := decide_eq_true h60
                      go_wp2_with fail
                      exact ⟨⟨k + 1, by omega, by go_num, by rw [BS.out, hd]; rfl, HE.out⟩, by simp [RowKit.intOf]; omega⟩
                    · have hd : decide (60 < (r.2[k].2.natAbs : Int)) = false := decide_eq_false h60
                      go_wp2_with fail
                      exact ⟨⟨k + 1, by omega, by go_num, by rw [BS.out, hd]; rfl, HE.out⟩, by simp [RowKit.intOf]; omega⟩
                · obtain rfl : k = r.2.length := by omega
                  rw [List.take_length]
                  obtain ⟨bb, hbb⟩ : ∃ b : Bool, bigB r.2 = b := ⟨_, rfl⟩
                  rw [hbb]
                  have HAq := Lib.hid (B21.out.trans (HBq.out.mono B21.out.size))
                  cases bb with
                  | true =>
                    go_wp2_with fail
                    go_ret
                    exact ⟨rfl, HAq.out⟩
                  | false =>
                    have hz := H0.out hbb
                    go_wp2_with fail
                    exact ⟨⟨j + 1, by omega, int_eq (by omega), by rw [SS.out, hz]; exact int_eq (by omega), HBq.out⟩, by simp [RowKit.intOf]; omega⟩
          · obtain rfl : j = 13 := by omega
            have E := Lib.hid (show (((sumTo m r.2 13 : Nat) : Int) == ((pl.length : Nat) : Int)) = true by rw [HPT.out]; simp)
            go_wp2
            go_ret
            exact ⟨ret_bool E.out, HA.out⟩
    · have HRK := Lib.hid (bool_f h2)
      clear h2
      obtain ⟨⟨lBR0, lBR1⟩, -⟩ := BR_20.out.two
      go_wp2_with fail
      refine (s_isreg r _ _ (rg_of r R_20.out)).mono ?_
      rintro e w21 ⟨rfl, hb21⟩
      rw [HRK.out]
      have B21 := Lib.hid (B20.out.trans (hb21.mono B20.out.size))
      have S21 := Lib.hid hb21.size
      have R_21 := Lib.hid (R_20.out.below hb21)
      have BR_21 := Lib.hid (BR_20.out.below hb21)
      have LST_21 := Lib.hid (LST_20.out.below hb21)
      clear hb21 R_20 BR_20 LST_20
      clear lBR0 lBR1
      go_wp2_with fail
      go_ret
      exact ⟨rfl, B21.out⟩
  · obtain rfl := bool_f h1
    clear h1
    clear X_16
    clear Z_16
    clear ZV_16
    clear A_16
    clear BA_16
    by_cases h2 : regOk r.1 r.2 = true
    · have HRK := Lib.hid h2
      clear h2
      obtain ⟨⟨lBR0, lBR1⟩, -⟩ := BR_16.out.two
      go_wp2_with fail
      refine (s_isreg r _ _ (rg_of r R_16.out)).mono ?_
      rintro e w17 ⟨rfl, hb17⟩
      rw [HRK.out]
      have B17 := Lib.hid (B16.out.trans (hb17.mono B16.out.size))
      have S17 := Lib.hid hb17.size
      have R_17 := Lib.hid (R_16.out.below hb17)
      have BR_17 := Lib.hid (BR_16.out.below hb17)
      have LST_17 := Lib.hid (LST_16.out.below hb17)
      clear hb17 R_16 BR_16 LST_16
      clear lBR0 lBR1
      obtain ⟨⟨lBR0, lBR1⟩, -⟩ := BR_17.out.two
      by_cases h3 : r.1 < 2
      · go_wp2_with fail
        go_ret
        exact ⟨rfl, B17.out⟩
      · have R8 := Lib.hid (regOk_t HRK.out)
        obtain ⟨m, hm⟩ : ∃ m : Nat, r.1 = ((m + 1 : Nat) : Int) := ⟨(r.1 - 1).toNat, by omega⟩
        have HM := Lib.hid hm
        have hm1 : 1 ≤ m := by omega
        have hm2 : m ≤ 2 := by have := R8.out.2.1; omega
        have HPT := Lib.hid (show sumTo m r.2 13 = pl.length by rw [← HPL.out, ptsR_t HRK.out, HM.out, sumTo_all])
        have HRM := Lib.hid (show regOk ((m + 1 : Nat) : Int) r.2 = true by rw [← HM.out]; exact HRK.out)
        clear hm
        go_wp2
        go_loopw [22, 23] (fun s i wr => ∃ j : Nat, j ≤ 13 ∧ i = .int .i64 ((j : Int) - 6) ∧ s = .int .i64 (sumTo m r.2 j : Nat) ∧ Below w17.heap.size w17 wr) (fun _ i _ => (7 - RowKit.intOf i).toNat)
        case atStart => exact ⟨0, Nat.zero_le _, rfl, rfl, Below.refl _ _⟩
        case round =>
          obtain ⟨j, hj, rfl, rfl, hbr⟩ := hrel
          rename World => wo
          have HBr := Lib.hid hbr
          have HA := Lib.hid (B17.out.trans (hbr.mono B17.out.size))
          have HBR := Lib.hid (BR_17.out.below hbr)
          have HOR := Lib.hid (R_17.out.below hbr)
          clear hbr
          obtain ⟨⟨l0, l1⟩, -⟩ := HBR.out.two
          by_cases hlt : j < 13
          · have i1 : ((j : Int) - 6) ≤ 6 := by omega
            have sl1 := sumTo_le hm2 r.2 j hj
            have sl2 := cntAt_le hm2 r.2 ((j : Int) - 6)
            have SS := Lib.hid (sumTo_succ (n := m) (hs := r.2) hlt)
            obtain ⟨q', hq'⟩ : ∃ q : Rgn × Bool, sliceR r.1 r.2 0 ((j : Int) - 6) = q := ⟨_, rfl⟩
            have CSI := Lib.hid (fun (v : Value) (W : World) (h : Rg W v r) => i_sliceof r 0 ((j : Int) - 6) v W h)
            have CSS := Lib.hid (fun (v : Value) (W : World) (h : Rg W v r) => s_sliceof r 0 ((j : Int) - 6) v W h)
            rw [hq'] at CSI CSS
            have HQ' := Lib.hid hq'
            clear hq'
            obtain ⟨qr, qb⟩ := q'
            go_wp2_with fail
            refine (CSI.out _ _ (rg_of r HOR.out)).mono ?_
            rintro e wA ⟨⟨v, rfl, V, rfl, ho⟩, hb1⟩
            obtain ⟨pa, pc, rfl, _⟩ := ho.hs.shape
            have NA := Lib.hid (below1 wA (.cells #[.int .i64 qr.1, .slice pa qr.2.length pc] 26))
            have HB1 := Lib.hid (HBr.out.trans (hb1.mono HBr.out.size))
            have HB2 := Lib.hid (HB1.out.trans (NA.out.mono HB1.out.size))
            have KB := Lib.hid ((HBR.out.below hb1).alloc (.cells #[.int .i64 qr.1, .slice pa qr.2.length pc] 26))
            have KR := Lib.hid ((HOR.out.below hb1).below NA.out)
            have KL := Lib.hid (HBR.out.below hb1).lt
            have KA := Lib.hid (HBR.out.below hb1)
            have HO := Lib.hid (ho.below NA.out)
            have HA2 := Lib.hid (B17.out.trans (HB2.out.mono B17.out.size))
            clear hb1 ho l0 l1
            have kl := KL.out
            have hne : ¬ w1.heap.size = wA.heap.size := by omega
            cases qb with
            | true =>
              have HCN := Lib.hid (show countR qr.1 qr.2 = (cntAt m r.2 ((j : Int) - 6) : Nat) by
                have h := cnt_ok (n := m) (hs := r.2) (x := (j : Int) - 6) HRM.out (by rw [← HM.out, HQ'.out])
                rw [← HM.out, HQ'.out] at h
                simp only at h
                rw [h.1]; exact h.2)
              have CCN := Lib.hid (fun (v : Value) (W : World) (h : Rg W v qr) => i_countin qr v W h)
              rw [HCN.out] at CCN
              go_wp2_with fail
              refine (CCN.out _ _ (rg_of qr HO.out)).mono ?_
              rintro e wB ⟨rfl, hb2⟩
              have HB3 := Lib.hid (HB2.out.trans (hb2.mono HB2.out.size))
              clear hb2
              go_wp2
              exact ⟨⟨j + 1, by omega, int_eq (by omega), by rw [SS.out]; exact int_eq (by omega), HB3.out⟩, by simp [RowKit.intOf]; omega⟩
            | false =>
              obtain ⟨⟨l0, l1⟩, -⟩ := KA.out.two
              go_wp2_with fail
              refine (CSS.out _ _ (rg_of r KR.out)).mono ?_
              rintro e wC ⟨⟨v, rfl, V2, rfl, ho2⟩, hb3⟩
              obtain ⟨pa2, pc2, rfl, _⟩ := ho2.hs.shape
              have NC := Lib.hid (below1 wC (.cells #[.int .i64 qr.1, .slice pa2 qr.2.length pc2] 26))
              have HB3 := Lib.hid (HB2.out.trans (hb3.mono HB2.out.size))
              have HB4 := Lib.hid (HB3.out.trans (NC.out.mono HB3.out.size))
              have KB4 := Lib.hid ((KB.out.below hb3).below NC.out)
              have KR4 := Lib.hid ((KR.out.below hb3).below NC.out)
              have HA4 := Lib.hid (B17.out.trans (HB4.out.mono B17.out.size))
              have H0 := Lib.hid (show bigB r.2 = false → cntAt m r.2 ((j : Int) - 6) = 0 from fun hbig => cnt_none HRM.out hm1 (by omega) (bigB_no hbig) (by rw [← HM.out, HQ'.out]))
              have hrl := R8.out.2.2.1
              have HBD := Lib.hid (fun (k : Nat) (hk : k < r.2.length) => show -4611686018427387904 ≤ r.2[k].2 ∧ r.2[k].2 ≤ 4611686018427387904 from by have := halfOk_t (R8.out.2.2.2 k hk); omega)
              have HS4 := Lib.hid KR4.out.hs
              clear hb3 ho2 l0 l1 hne kl
              go_wp2
              refine wgen ?_
              intro wD hWD
              have HBD4 := Lib.hid HB4.out
              rw [← hWD] at HB4 HA4 KB4 HS4
              clear hWD HBD4
              go_loopw [28, 29] (fun b q wr => ∃ k : Nat, k ≤ r.2.length ∧ q = .int .i64 k ∧ b = .bool (bigB (r.2.take k)) ∧ Below wD.heap.size wD wr) (fun _ q _ => r.2.length - (RowKit.intOf q).toNat)
              case atStart => exact ⟨0, Nat.zero_le _, rfl, rfl, Below.refl _ _⟩
              case round =>
                obtain ⟨k, hk, rfl, rfl, hbq⟩ := hrel
                rename World => wq
                have HQ := Lib.hid hbq
                obtain ⟨⟨l0, l1⟩, -⟩ := (KB4.out.below hbq).two
                have HSq := Lib.hid (HS4.out.below hbq)
                have HBq := Lib.hid (HB4.out.trans (hbq.mono HB4.out.size))
                clear hbq
                by_cases hltk : k < r.2.length
                · have BS := Lib.hid (bigB_succ hltk)
                  obtain ⟨b, off, y, rfl, _, hb2, hcell, hcell1, _⟩ := HSq.out.half k hltk rfl
                  have i2 : (0 : Int) ≤ (k : Int) := by omega
                  have i3 : (k : Int) < (r.2.length : Int) := by omega
                  obtain ⟨bb, hbb⟩ : ∃ b : Bool, bigB (r.2.take k) = b := ⟨_, rfl⟩
                  rw [hbb] at BS
                  rw [hbb]
                  clear hbb
                  cases bb with
                  | true =>
                    go_wp2_with fail
                    exact ⟨⟨k + 1, by omega, by go_num, by rw [BS.out]; rfl, HQ.out⟩, by simp [RowKit.intOf]; omega⟩
                  | false =>
                    go_wp2_with fail
                    refine (size_of _ (HBD.out k hltk) _).mono ?_
                    rintro e wE ⟨rfl, hbE⟩
                    have HE := Lib.hid (HQ.out.trans (hbE.mono HQ.out.size))
                    clear hbE l0 l1 hcell hcell1
                    by_cases h60 : 60 < (r.2[k].2.natAbs : Int)
                    · have hd : decide (60 < (r.2[k].2.natAbs : Int)) = true := decide_eq_true h60
                      go_wp2_with fail
                      exact ⟨⟨k + 1, by omega, by go_num, by rw [BS.out, hd]; rfl, HE.out⟩, by simp [RowKit.intOf]; omega⟩
                    · have hd : decide (60 < (r.2[k].2.natAbs : Int)) = false := decide_eq_false h60
                      go_wp2_with fail
                      exact ⟨⟨k + 1, by omega, by go_num, by rw [BS.out, hd]; rfl, HE.out⟩, by simp [RowKit.intOf]; omega⟩
                · obtain rfl : k = r.2.length := by omega
                  rw [List.take_length]
                  obtain ⟨bb, hbb⟩ : ∃ b : Bool, bigB r.2 = b := ⟨_, rfl⟩
                  rw [hbb]
                  have HAq := Lib.hid (B17.out.trans (HBq.out.mono B17.out.size))
                  cases bb with
                  | true =>
                    go_wp2_with fail
                    go_ret
                    exact ⟨rfl, HAq.out⟩
                  | false =>
                    have hz := H0.out hbb
                    go_wp2_with fail
                    exact ⟨⟨j + 1, by omega, int_eq (by omega), by rw [SS.out, hz]; exact int_eq (by omega), HBq.out⟩, by simp [RowKit.intOf]; omega⟩
          · obtain rfl : j = 13 := by omega
            have E := Lib.hid (show (((sumTo m r.2 13 : Nat) : Int) == ((pl.length : Nat) : Int)) = true by rw [HPT.out]; simp)
            go_wp2
            go_ret
            exact ⟨ret_bool E.out, HA.out⟩
    · have HRK := Lib.hid (bool_f h2)
      clear h2
      obtain ⟨⟨lBR0, lBR1⟩, -⟩ := BR_16.out.two
      go_wp2_with fail
      refine (s_isreg r _ _ (rg_of r R_16.out)).mono ?_
      rintro e w17 ⟨rfl, hb17⟩
      rw [HRK.out]
      have B17 := Lib.hid (B16.out.trans (hb17.mono B16.out.size))
      have S17 := Lib.hid hb17.size
      have R_17 := Lib.hid (R_16.out.below hb17)
      have BR_17 := Lib.hid (BR_16.out.below hb17)
      have LST_17 := Lib.hid (LST_16.out.below hb17)
      clear hb17 R_16 BR_16 LST_16
      clear lBR0 lBR1
      go_wp2_with fail
      go_ret
      exact ⟨rfl, B17.out⟩

theorem walk (l : List Int) (a : Option Addr) (n c : Nat) (w : World) (hlen : l.length = n) (hs : Sl w (.slice a n c) (numVals .u8 l)) (hz : ∀ z ∈ l, (Lit.int .u8 z).wf = true) :
    Calls Try.prog 3 #[.slice a n c] w fun e w' => e = .returned (.bool true) ∧ Below w.heap.size w w' := by
  by_cases hl : n ≤ 1048576
  · have hc := code_in hlen hs hz hl
    subst hlen
    exact walk_small a c l w hc
  · exact walk_big a n c (by omega) w

theorem own : ownKnob Try.prog.godebug = none := by kernel_rfl
theorem laidOut : laidOutB Try.prog = true := by kernel_rfl


set_option maxRecDepth 100000 in
set_option linter.unusedVariables false in
theorem contract (H : Type) (enc : TypeId × Value → H) (W : World) (base : Nat) (args : Array Value) (ds gs : List (DataW H)) (before : List MemPlace)
    (hval : ∀ (j : Nat) t v, Try.f3.params[j]? = some t → args[j]? = some v → Value.okWide Try.prog W .any base t v)
    (hW : DataW.Whole enc Try.prog Try.f3.params.toList Rows.fnPointsSpec.vars false W args.toList ds gs before) :
    Calls Try.prog 3 args W fun e W' => ∃ v, e = .returned v ∧ Rows.fnPointsSpec.post enc Try.prog Try.f3 false true false false W args v W' := by
  have hW' := hW
  obtain ⟨p, q, hA0, hV, rfl, hfz, hnd⟩ := hW
  have hA : DataW.TrodAll enc Try.prog W 0 (fun _ => true) true Try.f3.params.toList args.toList ds p := hA0
  rw [Try.params3] at hA hval
  obtain ⟨v0, vs0, d0, ds0, p0, q0, hargs, rfl, rfl, h0, r0⟩ := trodAll_cons hA
  obtain ⟨rfl, rfl, rfl⟩ := trodAll_nil r0
  obtain rfl : args = #[v0] := by cases args; simp_all
  obtain ⟨lA, lL, lC, rfl⟩ := okWide_slice Try.underlying22 (hval 0 22 v0 rfl rfl)
  obtain ⟨l, wl⟩ : ∃ zs : List Int, zs.length = lL ∧ Sl W (.slice lA lL lC) (numVals .u8 zs) ∧ ∀ z ∈ zs, (Lit.int .u8 z).wf = true := by
    obtain ⟨fuel, hf⟩ := h0
    exact nums_came Try.underlying22 Try.underlying5 (by kernel_rfl) hf
  refine (walk l _ _ _ W wl.1 wl.2.1 wl.2.2).mono fun e W' ⟨he, hb⟩ => ?_
  subst he
  exact ⟨_, rfl, law_post laidOut (by kernel_rfl) rfl Try.underlying4 rfl hW' (fun ds' h => by match ds', h with | [d0], _ => rfl) hb⟩


set_option maxRecDepth 100000 in
theorem lifted (os : Os) (started : os.Started) (H : Type) (enc : TypeId × Value → H) :
    ReturnsInHanded {} Try.checked os 3 .any (Rows.fnPointsSpec.pre6 enc Try.prog Try.f3 Rows.fnPointsRow.domain false) (Rows.fnPointsSpec.post enc Try.prog Try.f3 false true false false) := by
  refine returnsInHanded_of_change (C := Try.checked) own started (by kernel_rfl) Try.func3
    (ChangeSpec.witness6 (enc := enc) (C := Try.checked) false ⟨#[], #[.slice none 0 0], []⟩ 8 (by kernel_rfl) (by kernel_rfl) (by kernel_rfl) (by kernel_rfl)) ?_
  intro W base args ds gs before hval hW _ _
  exact contract H enc W base args ds gs before hval hW

theorem said : Rows.FnPointsSaid :=
  OpenClaim.holds_of_wide 3 Try.f3 rfl rfl rfl rfl rfl rfl rfl ⟨rfl, rfl, rfl, rfl, rfl⟩ rfl rfl rfl rfl rfl (by kernel_rfl) Try.func3 (by kernel_rfl)
    (of_decide_eq_true (by kernel_rfl)) (by unfold Func.isWrapper; first | (rw [if_pos (by decide +kernel)]; kernel_rfl) | (rw [if_neg (by decide +kernel)]; exact ⟨rfl, rfl⟩))
    (fun os started H enc _ => lifted os started H enc)
end Go.Proofs.Ytmogncpkdkdodaa.fnPoints
