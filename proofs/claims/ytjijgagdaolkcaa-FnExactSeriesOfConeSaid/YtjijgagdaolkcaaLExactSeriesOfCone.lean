/- FnExactSeriesOfCone holds for every input. Conditions: none. -/
import Derived.Test.YtjijgagdaolkcaaMba
import Derived.Test.YtjijgagdaolkcaaMau
import Derived.Test.YtjijgagdaolkcaaMav
import Derived.Test.YtjijgagdaolkcaaMao
import Derived.Test.YtjijgagdaolkcaaMad
import Derived.Test.YtjijgagdaolkcaaLaw
import Derived.Test.YtjijgagdaolkcaaRows
namespace Go.Proofs.Ytjijgagdaolkcaa.fnExactSeriesOfCone
open Go.ChangeShapes Go.WideShapes Go.ChangeAt Go.RowKit Go.Lib
open Go.ChangeMaps (open_string shut_string)
set_option linter.unusedVariables false in
set_option maxRecDepth 100000 in
set_option maxHeartbeats 400000 in
theorem walk_long0 (za : Cn) (vza : Value) (zb : List Int) (vzb : Value) (w : World) (hzb : Sl w vzb (intVals zb)) (hza : Cv w vza za)  (hl : 1048576 < zb.length) :
    Calls Try.prog 8 #[vza, vzb] w fun e w' => e = .returned (.bool true) ∧ Below w.heap.size w w' := by
  have Hzb := Lib.hid hzb
  obtain ⟨Azb, Czb, rfl, Mzb, _⟩ := hzb.shape
  rw [intVals_len] at Mzb Hzb ⊢
  unfold maxLen at Mzb
  clear hzb
  have Hza := Lib.hid hza
  obtain ⟨Uza, Tza, rfl, _, _⟩ := hza
  have B0 := Lib.hid (Below.refl w.heap.size w)
  have hb1 := below1 w (.cells #[Uza, Tza] 70)
  have B1 := Lib.hid (B0.out.trans (hb1.mono B0.out.size))
  have S1 := Lib.hid (alloc_lt w (.cells #[Uza, Tza] 70))
  have Pza_1 := Lib.hid (Bk.new w #[Uza, Tza] 70)
  clear hb1
  go_enter Try.func8, Try.ntmps8
  go_wp2_with fail
  go_ret
  exact ⟨rfl, B1.out⟩

set_option linter.unusedVariables false in
set_option maxRecDepth 100000 in
set_option maxHeartbeats 400000 in
theorem walk_long1 (za : Cn) (vza : Value) (zb : List Int) (vzb : Value) (w : World) (hzb : Sl w vzb (intVals zb)) (hza : Cv w vza za) (lzb : zb.length ≤ 1048576) (hl : ¬ (((za.1.length + za.2.length) : Nat) : Int) ≤ 1048576) :
    Calls Try.prog 8 #[vza, vzb] w fun e w' => e = .returned (.bool true) ∧ Below w.heap.size w w' := by
  have Hzb := Lib.hid hzb
  obtain ⟨Azb, Czb, rfl, Mzb, _⟩ := hzb.shape
  rw [intVals_len] at Mzb Hzb ⊢
  unfold maxLen at Mzb
  clear hzb
  have Hza := Lib.hid hza
  obtain ⟨Uza, Tza, rfl, _, _⟩ := hza
  have Qza := Lib.hid (show szI 1048576 ((za.1.length : Int) + za.2.length) = -1 from szI_small (by omega))
  have B0 := Lib.hid (Below.refl w.heap.size w)
  have hb1 := below1 w (.cells #[Uza, Tza] 70)
  have B1 := Lib.hid (B0.out.trans (hb1.mono B0.out.size))
  have S1 := Lib.hid (alloc_lt w (.cells #[Uza, Tza] 70))
  have Pza_1 := Lib.hid (Bk.new w #[Uza, Tza] 70)
  clear hb1
  go_enter Try.func8, Try.ntmps8
  obtain ⟨⟨lPza0, lPza1⟩, -⟩ := Pza_1.out.two
  go_wp2_with fail
  refine (sz_cone za _ 1048576 _ (Hza.out.below B1.out) (by omega) (by omega)).mono ?_
  rintro e w2 ⟨rfl, hb2⟩
  rw [Qza.out]
  have B2 := Lib.hid (B1.out.trans (hb2.mono B1.out.size))
  have S2 := Lib.hid hb2.size
  have Pza_2 := Lib.hid (Pza_1.out.below hb2)
  clear hb2 Pza_1
  clear lPza0 lPza1
  go_wp2_with fail
  go_ret
  exact ⟨rfl, B2.out⟩

set_option linter.unusedVariables false in
set_option maxRecDepth 100000 in
set_option maxHeartbeats 3200000 in
theorem walk_short (za : Cn) (vza : Value) (zb : List Int) (vzb : Value) (w : World) (hza : Cv w vza za) (hzb : Sl w vzb (intVals zb))  (lzb : zb.length ≤ 1048576) (lza : (((za.1.length + za.2.length) : Nat) : Int) ≤ 1048576)  :
    Calls Try.prog 8 #[vza, vzb] w fun e w' => e = .returned (.bool true) ∧ Below w.heap.size w w' := by
  have HS := Lib.hid (fun (xza : Value) (xzb : Value) (w : World) (yza : Cv w xza za) (yzb : Sl w xzb (intVals zb))  => s_series za zb xza xzb w yza yzb)
  have HI := Lib.hid (fun (xza : Value) (xzb : Value) (w : World) (yza : Cv w xza za) (yzb : Sl w xzb (intVals zb))  => i_series za zb xza xzb w yza yzb)
  have HRL := Lib.hid (seriesR_cnt za zb)
  generalize seriesR za zb = R at HS HI HRL
  have Hza := Lib.hid hza
  obtain ⟨Uza, Tza, rfl, _, _⟩ := hza
  have Hzb := Lib.hid hzb
  obtain ⟨Azb, Czb, rfl, Mzb, _⟩ := hzb.shape
  rw [intVals_len] at Mzb Hzb ⊢
  unfold maxLen at Mzb
  clear hzb
  obtain ⟨Lza, hLza⟩ : ∃ q : Int, 1048576 - ((za.1.length : Int) + za.2.length) = q := ⟨_, rfl⟩
  have g1za : 0 ≤ Lza := by omega
  have g2za : Lza ≤ 1048576 := by omega
  have Qza := Lib.hid (show szI 1048576 ((za.1.length : Int) + za.2.length) = Lza by rw [szI_fits (by omega), hLza])
  clear hLza
  have eza : za.1.length ≤ 1048576 ∧ za.2.length ≤ 1048576 := by omega
  obtain ⟨nza, hnza⟩ : ∃ q : Nat, 1 + (za.1.length + za.2.length) = q := ⟨_, rfl⟩
  have kza : 1 ≤ nza := by omega
  have Kza := Lib.hid hnza
  have gza : nza ≤ 4194304 := by omega
  clear hnza
  obtain ⟨nzb, hnzb⟩ : ∃ q : Nat, nza + zb.length = q := ⟨_, rfl⟩
  have kzb : 1 ≤ nzb := by omega
  have Kzb := Lib.hid hnzb
  have gzb : nzb ≤ 8388608 := by omega
  clear hnzb
  have B0 := Lib.hid (Below.refl w.heap.size w)
  have hb1 := below1 w (.cells #[Uza, Tza] 70)
  have B1 := Lib.hid (B0.out.trans (hb1.mono B0.out.size))
  have S1 := Lib.hid (alloc_lt w (.cells #[Uza, Tza] 70))
  have Pza_1 := Lib.hid (Bk.new w #[Uza, Tza] 70)
  clear hb1
  go_enter Try.func8, Try.ntmps8
  obtain ⟨⟨lPza0, lPza1⟩, -⟩ := Pza_1.out.two
  go_wp2_with fail
  refine (sz_cone za _ 1048576 _ (Hza.out.below B1.out) (by omega) (by omega)).mono ?_
  rintro e w2 ⟨rfl, hb2⟩
  rw [Qza.out]
  have B2 := Lib.hid (B1.out.trans (hb2.mono B1.out.size))
  have S2 := Lib.hid hb2.size
  have Pza_2 := Lib.hid (Pza_1.out.below hb2)
  clear hb2 Pza_1
  clear lPza0 lPza1
  obtain ⟨⟨lPza0, lPza1⟩, -⟩ := Pza_2.out.two
  go_wp2_with fail
  refine (to_cone za _ _ (Hza.out.below B2.out) eza).mono ?_
  rintro e w3 ⟨⟨_, rfl, x, y, rfl, ho⟩, hb3⟩
  obtain ⟨xacza, xccza, xbcza, xdcza, rfl, rfl⟩ := ho.shape
  clear lPza0 lPza1
  have B3 := Lib.hid (B2.out.trans (hb3.mono B2.out.size))
  have S3 := Lib.hid hb3.size
  have Pza_3 := Lib.hid (Pza_2.out.below hb3)
  have cza_3 := Lib.hid ho
  clear hb3 Pza_2 ho
  go_wp2_with fail
  refine (to_int zb _ _ (Hzb.out.below B3.out) lzb).mono ?_
  rintro e w4 ⟨⟨r, rfl, ho⟩, hb4⟩
  have B4 := Lib.hid (B3.out.trans (hb4.mono B3.out.size))
  have S4 := Lib.hid hb4.size
  have Pza_4 := Lib.hid (Pza_3.out.below hb4)
  have cza_4 := Lib.hid (cza_3.out.below hb4)
  have czb_4 := Lib.hid (OwnV.of_owns ho)
  clear hb4 Pza_3 cza_3 ho
  go_wp2_with fail
  refine (HS.out _ _ _ cza_4.out.cv czb_4.out.sl ).mono ?_
  rintro e w5 ⟨⟨r, rfl, ho⟩, hb5⟩
  have B5 := Lib.hid (B4.out.trans (hb5.mono B4.out.size))
  have S5 := Lib.hid hb5.size
  have Pza_5 := Lib.hid (Pza_4.out.below hb5)
  have cza_5 := Lib.hid (cza_4.out.below hb5)
  have czb_5 := Lib.hid (czb_4.out.below hb5)
  have W_5 := Lib.hid ho
  clear hb5 Pza_4 cza_4 czb_4 ho
  clear cza_5
  clear czb_5
  obtain ⟨⟨lPza0, lPza1⟩, -⟩ := Pza_5.out.two
  go_wp2_with fail
  refine (to_cone za _ _ (Hza.out.below B5.out) eza).mono ?_
  rintro e w6 ⟨⟨_, rfl, x, y, rfl, ho⟩, hb6⟩
  obtain ⟨xaxza, xcxza, xbxza, xdxza, rfl, rfl⟩ := ho.shape
  clear lPza0 lPza1
  have B6 := Lib.hid (B5.out.trans (hb6.mono B5.out.size))
  have S6 := Lib.hid hb6.size
  have Pza_6 := Lib.hid (Pza_5.out.below hb6)
  have W_6 := Lib.hid (W_5.out.below hb6)
  have xza_6 := Lib.hid ho
  clear hb6 Pza_5 W_5 ho
  have hb7 := below1 w6 (.cells #[.slice xaxza za.1.length xcxza, .slice xbxza za.2.length xdxza] 26)
  have B7 := Lib.hid (B6.out.trans (hb7.mono B6.out.size))
  have S7 := Lib.hid (alloc_lt w6 (.cells #[.slice xaxza za.1.length xcxza, .slice xbxza za.2.length xdxza] 26))
  have Pza_7 := Lib.hid (Pza_6.out.below hb7)
  have W_7 := Lib.hid (W_6.out.below hb7)
  have xza_7 := Lib.hid (xza_6.out.below hb7)
  have Bxza_7 := Lib.hid (Bk.new w6 #[.slice xaxza za.1.length xcxza, .slice xbxza za.2.length xdxza] 26)
  clear hb7 Pza_6 W_6 xza_6
  go_wp2_with fail
  refine (to_int zb _ _ (Hzb.out.below B7.out) lzb).mono ?_
  rintro e w8 ⟨⟨r, rfl, ho⟩, hb8⟩
  have B8 := Lib.hid (B7.out.trans (hb8.mono B7.out.size))
  have S8 := Lib.hid hb8.size
  have Pza_8 := Lib.hid (Pza_7.out.below hb8)
  have W_8 := Lib.hid (W_7.out.below hb8)
  have xza_8 := Lib.hid (xza_7.out.below hb8)
  have Bxza_8 := Lib.hid (Bxza_7.out.below hb8)
  have xzb_8 := Lib.hid (OwnV.of_owns ho)
  clear hb8 Pza_7 W_7 xza_7 Bxza_7 ho
  obtain ⟨⟨lBxza0, lBxza1⟩, -⟩ := Bxza_8.out.two
  go_wp2_with fail
  refine (HI.out _ _ _ xza_8.out.cv xzb_8.out.sl ).mono ?_
  rintro e w9 ⟨⟨r, rfl, ho⟩, hb9⟩
  have B9 := Lib.hid (B8.out.trans (hb9.mono B8.out.size))
  have S9 := Lib.hid hb9.size
  have Pza_9 := Lib.hid (Pza_8.out.below hb9)
  have W_9 := Lib.hid (W_8.out.below hb9)
  have xza_9 := Lib.hid (xza_8.out.below hb9)
  have Bxza_9 := Lib.hid (Bxza_8.out.below hb9)
  have xzb_9 := Lib.hid (xzb_8.out.below hb9)
  have G_9 := Lib.hid ho
  clear hb9 Pza_8 W_8 xza_8 Bxza_8 xzb_8 ho
  clear lBxza0 lBxza1
  go_wp2_with fail
  refine (eq_terms R.1 _ _ _ G_9.out.tms W_9.out.tms).mono ?_
  rintro e w10 ⟨rfl, hb10⟩
  have B10 := Lib.hid (B9.out.trans (hb10.mono B9.out.size))
  have S10 := Lib.hid hb10.size
  have Pza_10 := Lib.hid (Pza_9.out.below hb10)
  have W_10 := Lib.hid (W_9.out.below hb10)
  have xza_10 := Lib.hid (xza_9.out.below hb10)
  have Bxza_10 := Lib.hid (Bxza_9.out.below hb10)
  have xzb_10 := Lib.hid (xzb_9.out.below hb10)
  have G_10 := Lib.hid (G_9.out.below hb10)
  clear hb10 Pza_9 W_9 xza_9 Bxza_9 xzb_9 G_9
  have DX := Lib.hid Bxza_10.out.two.1
  have DP := Lib.hid Pza_10.out.two.1
  have LX := Lib.hid Bxza_10.out.lt
  have LP := Lib.hid Pza_10.out.lt
  have RX := Lib.hid (show Cv w10 (.agg #[.slice xaxza za.1.length xcxza, .slice xbxza za.2.length xdxza]) za from xza_10.out.cv)
  obtain ⟨lx0, lx1⟩ := DX.out
  obtain ⟨lp0, lp1⟩ := DP.out
  go_wp2_with fail
  go_region_held3 (fun w' => w'.cell? ⟨w6.heap.size, 0, none⟩ = some (.slice xaxza za.1.length xcxza) ∧ w'.cell? ⟨w6.heap.size, 1, none⟩ = some (.slice xbxza za.2.length xdxza) ∧ w'.cell? ⟨w.heap.size, 0, none⟩ = some (Uza) ∧ w'.cell? ⟨w.heap.size, 1, none⟩ = some (Tza) ∧ Below w10.heap.size w10 w')
    (first | with_reducible exact keepF4 lx0 lx1 lp0 lp1 (Below.refl _ _) | (go_split_ands; with_reducible exact keepE4 LX.out LX.out LP.out LP.out (by assumption) (by assumption) (by assumption) (by assumption) (by assumption) (by assumption)) | go_keep)
    (first | (go_at_call 55; refine (to_cone za _ _ (Hza.out.below (B10.out.drew)) eza).mono ?_; rintro e w1 ⟨⟨_, rfl, x, y, rfl, ho⟩, hb1⟩) | (go_at_call 56; refine (eq_cone za _ _ _ (RX.out.below (drew_below hb1)) ho.cv).mono ?_; rintro e w2 ⟨rfl, hb2⟩))
  rename_i hH
  obtain ⟨w11, hb11⟩ : ∃ q, Below w10.heap.size w10 q ∧ q = w2 := ⟨w2, hH.2.2.2.2, rfl⟩
  obtain ⟨hb11, rfl⟩ := hb11
  clear hH DX DP LX LP RX lx0 lx1 lp0 lp1 hb1 hb2 ho
  have B11 := Lib.hid (B10.out.trans (hb11.mono B10.out.size))
  have S11 := Lib.hid hb11.size
  have Pza_11 := Lib.hid (Pza_10.out.below hb11)
  have W_11 := Lib.hid (W_10.out.below hb11)
  have xza_11 := Lib.hid (xza_10.out.below hb11)
  have Bxza_11 := Lib.hid (Bxza_10.out.below hb11)
  have xzb_11 := Lib.hid (xzb_10.out.below hb11)
  have G_11 := Lib.hid (G_10.out.below hb11)
  clear hb11 Pza_10 W_10 xza_10 Bxza_10 xzb_10 G_10
  go_wp2_with fail
  refine (to_int zb _ _ (Hzb.out.below B11.out) lzb).mono ?_
  rintro e w12 ⟨⟨r, rfl, ho⟩, hb12⟩
  have B12 := Lib.hid (B11.out.trans (hb12.mono B11.out.size))
  have S12 := Lib.hid hb12.size
  have Pza_12 := Lib.hid (Pza_11.out.below hb12)
  have W_12 := Lib.hid (W_11.out.below hb12)
  have xza_12 := Lib.hid (xza_11.out.below hb12)
  have Bxza_12 := Lib.hid (Bxza_11.out.below hb12)
  have xzb_12 := Lib.hid (xzb_11.out.below hb12)
  have G_12 := Lib.hid (G_11.out.below hb12)
  have tzb_12 := Lib.hid (OwnV.of_owns ho)
  clear hb12 Pza_11 W_11 xza_11 Bxza_11 xzb_11 G_11 ho
  go_wp2_with fail
  refine (eq_int zb _ _ _ xzb_12.out.sl tzb_12.out.sl).mono ?_
  rintro e w13 ⟨rfl, hb13⟩
  have B13 := Lib.hid (B12.out.trans (hb13.mono B12.out.size))
  have S13 := Lib.hid hb13.size
  have Pza_13 := Lib.hid (Pza_12.out.below hb13)
  have W_13 := Lib.hid (W_12.out.below hb13)
  have xza_13 := Lib.hid (xza_12.out.below hb13)
  have Bxza_13 := Lib.hid (Bxza_12.out.below hb13)
  have xzb_13 := Lib.hid (xzb_12.out.below hb13)
  have G_13 := Lib.hid (G_12.out.below hb13)
  have tzb_13 := Lib.hid (tzb_12.out.below hb13)
  clear hb13 Pza_12 W_12 xza_12 Bxza_12 xzb_12 G_12 tzb_12
  clear tzb_13
  obtain ⟨⟨lBxza0, lBxza1⟩, -⟩ := Bxza_13.out.two
  go_wp2_with fail
  refine (mark_cone za _ _ 1 nza _ _ _ (Nat.le_refl 1) Kza.out (by omega) xza_13.out).mono ?_
  rintro e w14 ⟨rfl, ho, hb14⟩
  have B14 := Lib.hid (B13.out.trans (hb14.below (by have := S1.out; have := S2.out; have := S3.out; have := S4.out; have := S5.out; have := S6.out; have := S7.out; have := S8.out; have := S9.out; have := S10.out; have := S11.out; have := S12.out; have := S13.out; omega) (by have := S1.out; have := S2.out; have := S3.out; have := S4.out; have := S5.out; have := S6.out; have := S7.out; have := S8.out; have := S9.out; have := S10.out; have := S11.out; have := S12.out; have := S13.out; omega)))
  have S14 := Lib.hid hb14.size
  have Pza_14 := Lib.hid (Pza_13.out.kept hb14 (by have := S1.out; have := S2.out; have := S3.out; have := S4.out; have := S5.out; have := S6.out; have := S7.out; have := S8.out; have := S9.out; have := S10.out; have := S11.out; have := S12.out; have := S13.out; omega))
  have W_14 := Lib.hid (W_13.out.kept hb14 (by have := S1.out; have := S2.out; have := S3.out; have := S4.out; have := S5.out; have := S6.out; have := S7.out; have := S8.out; have := S9.out; have := S10.out; have := S11.out; have := S12.out; have := S13.out; omega))
  have Bxza_14 := Lib.hid (Bxza_13.out.kept hb14 (by have := S1.out; have := S2.out; have := S3.out; have := S4.out; have := S5.out; have := S6.out; have := S7.out; have := S8.out; have := S9.out; have := S10.out; have := S11.out; have := S12.out; have := S13.out; omega))
  have xzb_14 := Lib.hid (xzb_13.out.kept hb14 (by have := S1.out; have := S2.out; have := S3.out; have := S4.out; have := S5.out; have := S6.out; have := S7.out; have := S8.out; have := S9.out; have := S10.out; have := S11.out; have := S12.out; have := S13.out; omega))
  have G_14 := Lib.hid (G_13.out.kept hb14 (by have := S1.out; have := S2.out; have := S3.out; have := S4.out; have := S5.out; have := S6.out; have := S7.out; have := S8.out; have := S9.out; have := S10.out; have := S11.out; have := S12.out; have := S13.out; omega))
  have xza_14 := Lib.hid ho
  clear hb14 ho
  clear lBxza0 lBxza1
  go_wp2_with fail
  refine (mark_int zb _ _ nza nzb _ _ kza Kzb.out (by omega) xzb_14.out).mono ?_
  rintro e w15 ⟨rfl, ho, hb15⟩
  have B15 := Lib.hid (B14.out.trans (hb15.below (by have := S1.out; have := S2.out; have := S3.out; have := S4.out; have := S5.out; have := S6.out; have := S7.out; have := S8.out; have := S9.out; have := S10.out; have := S11.out; have := S12.out; have := S13.out; have := S14.out; omega) (by have := S1.out; have := S2.out; have := S3.out; have := S4.out; have := S5.out; have := S6.out; have := S7.out; have := S8.out; have := S9.out; have := S10.out; have := S11.out; have := S12.out; have := S13.out; have := S14.out; omega)))
  have S15 := Lib.hid hb15.size
  have Pza_15 := Lib.hid (Pza_14.out.kept hb15 (by have := S1.out; have := S2.out; have := S3.out; have := S4.out; have := S5.out; have := S6.out; have := S7.out; have := S8.out; have := S9.out; have := S10.out; have := S11.out; have := S12.out; have := S13.out; have := S14.out; omega))
  have W_15 := Lib.hid (W_14.out.kept hb15 (by have := S1.out; have := S2.out; have := S3.out; have := S4.out; have := S5.out; have := S6.out; have := S7.out; have := S8.out; have := S9.out; have := S10.out; have := S11.out; have := S12.out; have := S13.out; have := S14.out; omega))
  have xza_15 := Lib.hid (xza_14.out.kept hb15 (by have := S1.out; have := S2.out; have := S3.out; have := S4.out; have := S5.out; have := S6.out; have := S7.out; have := S8.out; have := S9.out; have := S10.out; have := S11.out; have := S12.out; have := S13.out; have := S14.out; omega))
  have Bxza_15 := Lib.hid (Bxza_14.out.kept hb15 (by have := S1.out; have := S2.out; have := S3.out; have := S4.out; have := S5.out; have := S6.out; have := S7.out; have := S8.out; have := S9.out; have := S10.out; have := S11.out; have := S12.out; have := S13.out; have := S14.out; omega))
  have G_15 := Lib.hid (G_14.out.kept hb15 (by have := S1.out; have := S2.out; have := S3.out; have := S4.out; have := S5.out; have := S6.out; have := S7.out; have := S8.out; have := S9.out; have := S10.out; have := S11.out; have := S12.out; have := S13.out; have := S14.out; omega))
  have xzb_15 := Lib.hid ho
  clear hb15 ho
  clear xza_15
  clear xzb_15
  clear Bxza_15
  go_wp2_with fail
  refine (eq_terms R.1 _ _ _ G_15.out.tms W_15.out.tms).mono ?_
  rintro e w16 ⟨rfl, hb16⟩
  have B16 := Lib.hid (B15.out.trans (hb16.mono B15.out.size))
  have S16 := Lib.hid hb16.size
  have Pza_16 := Lib.hid (Pza_15.out.below hb16)
  have W_16 := Lib.hid (W_15.out.below hb16)
  have G_16 := Lib.hid (G_15.out.below hb16)
  clear hb16 Pza_15 W_15 G_15
  have ml := HRL.out
  obtain ⟨mm, hmm⟩ : ∃ q : Nat, 1 + cntT R.1 = q := ⟨_, rfl⟩
  have gmm : mm ≤ 4611686018427387904 := by omega
  have KM := Lib.hid hmm
  clear ml hmm
  go_wp2_with fail
  refine (mark_terms R.1 _ _ 1 mm _ _ (Nat.le_refl 1) KM.out (by omega) G_16.out).mono ?_
  rintro e w17 ⟨rfl, ho, hb17⟩
  have B17 := Lib.hid (B16.out.trans (hb17.below (by have := S1.out; have := S2.out; have := S3.out; have := S4.out; have := S5.out; have := S6.out; have := S7.out; have := S8.out; have := S9.out; have := S10.out; have := S11.out; have := S12.out; have := S13.out; have := S14.out; have := S15.out; have := S16.out; omega) (by have := S1.out; have := S2.out; have := S3.out; have := S4.out; have := S5.out; have := S6.out; have := S7.out; have := S8.out; have := S9.out; have := S10.out; have := S11.out; have := S12.out; have := S13.out; have := S14.out; have := S15.out; have := S16.out; omega)))
  have S17 := Lib.hid hb17.size
  have Pza_17 := Lib.hid (Pza_16.out.kept hb17 (by have := S1.out; have := S2.out; have := S3.out; have := S4.out; have := S5.out; have := S6.out; have := S7.out; have := S8.out; have := S9.out; have := S10.out; have := S11.out; have := S12.out; have := S13.out; have := S14.out; have := S15.out; have := S16.out; omega))
  have W_17 := Lib.hid (W_16.out.kept hb17 (by have := S1.out; have := S2.out; have := S3.out; have := S4.out; have := S5.out; have := S6.out; have := S7.out; have := S8.out; have := S9.out; have := S10.out; have := S11.out; have := S12.out; have := S13.out; have := S14.out; have := S15.out; have := S16.out; omega))
  have G_17 := Lib.hid ho
  clear hb17 ho
  go_wp2_with fail
  refine (held_terms _ R.1 1 mm _ (Nat.le_refl 1) KM.out gmm G_17.out.tms).mono ?_
  rintro e w18 ⟨rfl, hb18⟩
  have B18 := Lib.hid (B17.out.trans (hb18.mono B17.out.size))
  have S18 := Lib.hid hb18.size
  have Pza_18 := Lib.hid (Pza_17.out.below hb18)
  have W_18 := Lib.hid (W_17.out.below hb18)
  have G_18 := Lib.hid (G_17.out.below hb18)
  clear hb18 Pza_17 W_17 G_17
  obtain ⟨⟨lPza0, lPza1⟩, -⟩ := Pza_18.out.two
  go_wp2_with fail
  refine (to_cone za _ _ (Hza.out.below B18.out) eza).mono ?_
  rintro e w19 ⟨⟨_, rfl, x, y, rfl, ho⟩, hb19⟩
  obtain ⟨xadza, xcdza, xbdza, xddza, rfl, rfl⟩ := ho.shape
  clear lPza0 lPza1
  have B19 := Lib.hid (B18.out.trans (hb19.mono B18.out.size))
  have S19 := Lib.hid hb19.size
  have Pza_19 := Lib.hid (Pza_18.out.below hb19)
  have W_19 := Lib.hid (W_18.out.below hb19)
  have G_19 := Lib.hid (G_18.out.below hb19)
  have dza_19 := Lib.hid ho
  clear hb19 Pza_18 W_18 G_18 ho
  go_wp2_with fail
  refine (to_int zb _ _ (Hzb.out.below B19.out) lzb).mono ?_
  rintro e w20 ⟨⟨r, rfl, ho⟩, hb20⟩
  have B20 := Lib.hid (B19.out.trans (hb20.mono B19.out.size))
  have S20 := Lib.hid hb20.size
  have Pza_20 := Lib.hid (Pza_19.out.below hb20)
  have W_20 := Lib.hid (W_19.out.below hb20)
  have G_20 := Lib.hid (G_19.out.below hb20)
  have dza_20 := Lib.hid (dza_19.out.below hb20)
  have dzb_20 := Lib.hid (OwnV.of_owns ho)
  clear hb20 Pza_19 W_19 G_19 dza_19 ho
  go_wp2_with fail
  refine (HI.out _ _ _ dza_20.out.cv dzb_20.out.sl ).mono ?_
  rintro e w21 ⟨⟨r, rfl, ho⟩, hb21⟩
  have B21 := Lib.hid (B20.out.trans (hb21.mono B20.out.size))
  have S21 := Lib.hid hb21.size
  have Pza_21 := Lib.hid (Pza_20.out.below hb21)
  have W_21 := Lib.hid (W_20.out.below hb21)
  have G_21 := Lib.hid (G_20.out.below hb21)
  have dza_21 := Lib.hid (dza_20.out.below hb21)
  have dzb_21 := Lib.hid (dzb_20.out.below hb21)
  have Z_21 := Lib.hid ho
  clear hb21 Pza_20 W_20 G_20 dza_20 dzb_20 ho
  clear dza_21
  clear dzb_21
  go_wp2_with fail
  refine (eq_terms R.1 _ _ _ Z_21.out.tms W_21.out.tms).mono ?_
  rintro e w22 ⟨rfl, hb22⟩
  have B22 := Lib.hid (B21.out.trans (hb22.mono B21.out.size))
  have S22 := Lib.hid hb22.size
  have Pza_22 := Lib.hid (Pza_21.out.below hb22)
  have W_22 := Lib.hid (W_21.out.below hb22)
  have G_22 := Lib.hid (G_21.out.below hb22)
  have Z_22 := Lib.hid (Z_21.out.below hb22)
  clear hb22 Pza_21 W_21 G_21 Z_21
  clear Z_22
  clear W_22
  go_wp2_with fail
  refine (held_terms _ R.1 1 mm _ (Nat.le_refl 1) KM.out gmm G_22.out.tms).mono ?_
  rintro e w23 ⟨rfl, hb23⟩
  have B23 := Lib.hid (B22.out.trans (hb23.mono B22.out.size))
  have S23 := Lib.hid hb23.size
  have Pza_23 := Lib.hid (Pza_22.out.below hb23)
  have G_23 := Lib.hid (G_22.out.below hb23)
  clear hb23 Pza_22 G_22
  go_wp2_with fail
  go_ret
  exact ⟨rfl, B23.out⟩

theorem walk (za : Cn) (vza : Value) (zb : List Int) (vzb : Value) (w : World) (hza : Cv w vza za) (hzb : Sl w vzb (intVals zb))    :
    Calls Try.prog 8 #[vza, vzb] w fun e w' => e = .returned (.bool true) ∧ Below w.heap.size w w' := by
  by_cases lzb : zb.length ≤ 1048576
  · by_cases lza : (((za.1.length + za.2.length) : Nat) : Int) ≤ 1048576
    · exact walk_short za vza zb vzb w hza hzb  lzb lza 
    · exact walk_long1 za vza zb vzb w hzb hza lzb lza
  · exact walk_long0 za vza zb vzb w hzb hza  (by omega)

theorem own : ownKnob Try.prog.godebug = none := by kernel_rfl
theorem laidOut : laidOutB Try.prog = true := by kernel_rfl


set_option maxRecDepth 100000 in
set_option linter.unusedVariables false in
theorem contract (H : Type) (enc : TypeId × Value → H) (W : World) (base : Nat) (args : Array Value) (ds gs : List (DataW H)) (before : List MemPlace)
    (hval : ∀ (j : Nat) t v, Try.f8.params[j]? = some t → args[j]? = some v → Value.okWide Try.prog W .any base t v)
    (hW : DataW.Whole enc Try.prog Try.f8.params.toList Rows.fnExactSeriesOfConeSpec.vars false W args.toList ds gs before) :
    Calls Try.prog 8 args W fun e W' => ∃ v, e = .returned v ∧ Rows.fnExactSeriesOfConeSpec.post enc Try.prog Try.f8 false true false false W args v W' := by
  have hW' := hW
  obtain ⟨p, q, hA0, hV, rfl, hfz, hnd⟩ := hW
  have hA : DataW.TrodAll enc Try.prog W 0 (fun _ => true) true Try.f8.params.toList args.toList ds p := hA0
  rw [Try.params8] at hA hval
  obtain ⟨v0, vs0, d0, ds0, p0, q0, hargs, rfl, rfl, h0, r0⟩ := trodAll_cons hA
  obtain ⟨v1, vs1, d1, ds1, p1, q1, rfl, rfl, rfl, h1, r1⟩ := trodAll_cons r0
  obtain ⟨rfl, rfl, rfl⟩ := trodAll_nil r1
  obtain rfl : args = #[v0, v1] := by cases args; simp_all
  obtain ⟨za, wza⟩ : ∃ z : Cn, True ∧ Cv W v0 z ∧ True := cv_came Try.underlying70 (by kernel_rfl) (by kernel_rfl) Try.underlying24 Try.underlying24 Try.underlying3 (by kernel_rfl) (hval 0 70 v0 rfl rfl) h0
  obtain ⟨zbA, zbL, zbC, rfl⟩ := okWide_slice Try.underlying24 (hval 1 24 v1 rfl rfl)
  obtain ⟨zb, wzb⟩ : ∃ zs : List Int, zs.length = zbL ∧ Sl W (.slice zbA zbL zbC) (numVals .i64 zs) ∧ ∀ z ∈ zs, (Lit.int .i64 z).wf = true := by
    obtain ⟨fuel, hf⟩ := h1
    exact nums_came Try.underlying24 Try.underlying3 (by kernel_rfl) hf
  refine (walk za _ zb _ W wza.2.1 wzb.2.1   ).mono fun e W' ⟨he, hb⟩ => ?_
  subst he
  exact ⟨_, rfl, law_post laidOut (by kernel_rfl) rfl Try.underlying4 rfl hW' (fun ds' h => by match ds', h with | [d0, d1], _ => rfl) hb⟩


set_option maxRecDepth 100000 in
theorem lifted (os : Os) (started : os.Started) (H : Type) (enc : TypeId × Value → H) :
    ReturnsInHanded {} Try.checked os 8 .any (Rows.fnExactSeriesOfConeSpec.pre6 enc Try.prog Try.f8 Rows.fnExactSeriesOfConeRow.domain false) (Rows.fnExactSeriesOfConeSpec.post enc Try.prog Try.f8 false true false false) := by
  refine returnsInHanded_of_change (C := Try.checked) own started (by kernel_rfl) Try.func8
    (ChangeSpec.witness6 (enc := enc) (C := Try.checked) false ⟨#[], #[.agg #[.slice none 0 0, .slice none 0 0], .slice none 0 0], []⟩ 8 (by kernel_rfl) (by kernel_rfl) (by kernel_rfl) (by kernel_rfl)) ?_
  intro W base args ds gs before hval hW _ _
  exact contract H enc W base args ds gs before hval hW

theorem said : Rows.FnExactSeriesOfConeSaid :=
  OpenClaim.holds_of_wide 8 Try.f8 rfl rfl rfl rfl rfl rfl rfl ⟨rfl, rfl, rfl, rfl, rfl⟩ rfl rfl rfl rfl rfl (by kernel_rfl) Try.func8 (by kernel_rfl)
    (of_decide_eq_true (by kernel_rfl)) (by unfold Func.isWrapper; first | (rw [if_pos (by decide +kernel)]; kernel_rfl) | (rw [if_neg (by decide +kernel)]; exact ⟨rfl, rfl⟩))
    (fun os started H enc _ => lifted os started H enc)
end Go.Proofs.Ytjijgagdaolkcaa.fnExactSeriesOfCone
