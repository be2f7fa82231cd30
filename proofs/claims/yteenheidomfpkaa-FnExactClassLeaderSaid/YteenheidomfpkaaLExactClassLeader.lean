/- FnExactClassLeader holds for every input. Conditions: none. -/
import Derived.Test.YteenheidomfpkaaLtT
import Derived.Test.YteenheidomfpkaaMay
import Derived.Test.YteenheidomfpkaaRowTo
import Derived.Test.YteenheidomfpkaaRowEq
import Derived.Test.YteenheidomfpkaaRowMark
import Derived.Test.YteenheidomfpkaaMad
import Derived.Test.YteenheidomfpkaaLaw
import Derived.Test.YteenheidomfpkaaRows
namespace Go.Proofs.Yteenheidomfpkaa.fnExactClassLeader
open Go.ChangeShapes Go.WideShapes Go.ChangeAt Go.RowKit Go.Lib
open Go.ChangeMaps (open_string shut_string)
set_option linter.unusedVariables false in
set_option maxRecDepth 100000 in
set_option maxHeartbeats 400000 in
theorem walk_long0 (za : List (List Int)) (vza : Value) (zb : List Int) (vzb : Value) (w : World) (hzb : Sl w vzb (intVals zb))  (hl : 1048576 < zb.length) :
    Calls Try.prog 8 #[vza, vzb] w fun e w' => e = .returned (.bool true) ∧ Below w.heap.size w w' := by
  have Hzb := Lib.hid hzb
  obtain ⟨Azb, Czb, rfl, Mzb, _⟩ := hzb.shape
  rw [intVals_len] at Mzb Hzb ⊢
  unfold maxLen at Mzb
  clear hzb
  go_enter Try.func8, Try.ntmps8
  go_wp2_with fail
  go_ret
  exact ⟨rfl, Below.refl _ _⟩

set_option linter.unusedVariables false in
set_option maxRecDepth 100000 in
set_option maxHeartbeats 400000 in
theorem walk_long1 (za : List (List Int)) (vza : Value) (zb : List Int) (vzb : Value) (w : World) (hzb : Sl w vzb (intVals zb)) (hza : Rw w vza za) (lzb : zb.length ≤ 1048576) (hl : ¬ ((za.length + tot za) : Int) ≤ 1048576) :
    Calls Try.prog 8 #[vza, vzb] w fun e w' => e = .returned (.bool true) ∧ Below w.heap.size w w' := by
  have Hzb := Lib.hid hzb
  obtain ⟨Azb, Czb, rfl, Mzb, _⟩ := hzb.shape
  rw [intVals_len] at Mzb Hzb ⊢
  unfold maxLen at Mzb
  clear hzb
  have Hza := Lib.hid hza
  obtain ⟨Aza, Cza, rfl, Mza, _⟩ := hza.shape
  unfold maxLen at Mza
  clear hza
  have Qza := Lib.hid (show szR za 1048576 = -1 from szR_small (by omega))
  have B0 := Lib.hid (Below.refl w.heap.size w)
  go_enter Try.func8, Try.ntmps8
  go_wp2_with fail
  refine (sz_rows za _ 1048576 _ (Hza.out.below B0.out) (by omega) (by omega)).mono ?_
  rintro e w1 ⟨rfl, hb1⟩
  rw [Qza.out]
  have B1 := Lib.hid (B0.out.trans (hb1.mono B0.out.size))
  have S1 := Lib.hid hb1.size
  clear hb1
  go_wp2_with fail
  go_ret
  exact ⟨rfl, B1.out⟩

set_option linter.unusedVariables false in
set_option maxRecDepth 100000 in
set_option maxHeartbeats 1600000 in
theorem walk_short (za : List (List Int)) (vza : Value) (zb : List Int) (vzb : Value) (w : World) (hza : Rw w vza za) (hzb : Sl w vzb (intVals zb))  (lzb : zb.length ≤ 1048576) (lza : ((za.length + tot za) : Int) ≤ 1048576)  :
    Calls Try.prog 8 #[vza, vzb] w fun e w' => e = .returned (.bool true) ∧ Below w.heap.size w w' := by
  have HS := Lib.hid (fun (xza : Value) (xzb : Value) (w : World) (yza : Rw w xza za) (yzb : Sl w xzb (intVals zb))  => s_clead za zb xza xzb w yza yzb)
  have HI := Lib.hid (fun (xza : Value) (xzb : Value) (w : World) (yza : Rw w xza za) (yzb : Sl w xzb (intVals zb))  => i_clead za zb xza xzb w yza yzb)
  have HRL := Lib.hid (leadR_len za zb)
  generalize leadR za zb = R at HS HI HRL
  have Hza := Lib.hid hza
  obtain ⟨Aza, Cza, rfl, Mza, _⟩ := hza.shape
  unfold maxLen at Mza
  clear hza
  have Hzb := Lib.hid hzb
  obtain ⟨Azb, Czb, rfl, Mzb, _⟩ := hzb.shape
  rw [intVals_len] at Mzb Hzb ⊢
  unfold maxLen at Mzb
  clear hzb
  obtain ⟨Lza, hLza⟩ : ∃ q : Int, 1048576 - za.length - tot za = q := ⟨_, rfl⟩
  have g1za : 0 ≤ Lza := by omega
  have g2za : Lza ≤ 1048576 := by omega
  have Qza := Lib.hid (show szR za 1048576 = Lza by rw [szR_fits (by omega), hLza])
  clear hLza
  have eza : ∀ (i : Nat) zs, za[i]? = some zs → zs.length ≤ 1048576 := fun i zs hz => by have h1 := lt_of_get hz; have h2 := row_le_tot h1; rw [List.getElem?_eq_getElem h1] at hz; obtain rfl := Option.some.inj hz; omega
  have Fza := Lib.hid eza
  clear eza
  obtain ⟨nza, hnza⟩ : ∃ q : Nat, 1 + tot za = q := ⟨_, rfl⟩
  have kza : 1 ≤ nza := by omega
  have Kza := Lib.hid hnza
  have gza : nza ≤ 2097152 := by omega
  clear hnza
  obtain ⟨nzb, hnzb⟩ : ∃ q : Nat, nza + zb.length = q := ⟨_, rfl⟩
  have kzb : 1 ≤ nzb := by omega
  have Kzb := Lib.hid hnzb
  have gzb : nzb ≤ 4194304 := by omega
  clear hnzb
  have B0 := Lib.hid (Below.refl w.heap.size w)
  go_enter Try.func8, Try.ntmps8
  go_wp2_with fail
  refine (sz_rows za _ 1048576 _ (Hza.out.below B0.out) (by omega) (by omega)).mono ?_
  rintro e w1 ⟨rfl, hb1⟩
  rw [Qza.out]
  have B1 := Lib.hid (B0.out.trans (hb1.mono B0.out.size))
  have S1 := Lib.hid hb1.size
  clear hb1
  go_wp2_with fail
  refine (to_rows za _ _ (Hza.out.below B1.out) (by omega) Fza.out).mono ?_
  rintro e w2 ⟨⟨r, rfl, ho⟩, hb2⟩
  have B2 := Lib.hid (B1.out.trans (hb2.mono B1.out.size))
  have S2 := Lib.hid hb2.size
  have cza_2 := Lib.hid ho
  clear hb2 ho
  go_wp2_with fail
  refine (to_int zb _ _ (Hzb.out.below B2.out) lzb).mono ?_
  rintro e w3 ⟨⟨r, rfl, ho⟩, hb3⟩
  have B3 := Lib.hid (B2.out.trans (hb3.mono B2.out.size))
  have S3 := Lib.hid hb3.size
  have cza_3 := Lib.hid (cza_2.out.below hb3)
  have czb_3 := Lib.hid (OwnV.of_owns ho)
  clear hb3 cza_2 ho
  go_wp2_with fail
  refine (HS.out _ _ _ cza_3.out.rw czb_3.out.sl ).mono ?_
  rintro e w4 ⟨⟨r, rfl, ho⟩, hb4⟩
  have B4 := Lib.hid (B3.out.trans (hb4.mono B3.out.size))
  have S4 := Lib.hid hb4.size
  have cza_4 := Lib.hid (cza_3.out.below hb4)
  have czb_4 := Lib.hid (czb_3.out.below hb4)
  have W_4 := Lib.hid ho
  clear hb4 cza_3 czb_3 ho
  clear cza_4
  clear czb_4
  go_wp2_with fail
  refine (to_rows za _ _ (Hza.out.below B4.out) (by omega) Fza.out).mono ?_
  rintro e w5 ⟨⟨r, rfl, ho⟩, hb5⟩
  have B5 := Lib.hid (B4.out.trans (hb5.mono B4.out.size))
  have S5 := Lib.hid hb5.size
  have W_5 := Lib.hid (W_4.out.below hb5)
  have xza_5 := Lib.hid ho
  clear hb5 W_4 ho
  go_wp2_with fail
  refine (to_int zb _ _ (Hzb.out.below B5.out) lzb).mono ?_
  rintro e w6 ⟨⟨r, rfl, ho⟩, hb6⟩
  have B6 := Lib.hid (B5.out.trans (hb6.mono B5.out.size))
  have S6 := Lib.hid hb6.size
  have W_6 := Lib.hid (W_5.out.below hb6)
  have xza_6 := Lib.hid (xza_5.out.below hb6)
  have xzb_6 := Lib.hid (OwnV.of_owns ho)
  clear hb6 W_5 xza_5 ho
  go_wp2_with fail
  refine (HI.out _ _ _ xza_6.out.rw xzb_6.out.sl ).mono ?_
  rintro e w7 ⟨⟨r, rfl, ho⟩, hb7⟩
  have B7 := Lib.hid (B6.out.trans (hb7.mono B6.out.size))
  have S7 := Lib.hid hb7.size
  have W_7 := Lib.hid (W_6.out.below hb7)
  have xza_7 := Lib.hid (xza_6.out.below hb7)
  have xzb_7 := Lib.hid (xzb_6.out.below hb7)
  have G_7 := Lib.hid ho
  clear hb7 W_6 xza_6 xzb_6 ho
  go_wp2_with fail
  refine (eq_int R.1 _ _ _ G_7.out.sl W_7.out.sl).mono ?_
  rintro e w8 ⟨rfl, hb8⟩
  have B8 := Lib.hid (B7.out.trans (hb8.mono B7.out.size))
  have S8 := Lib.hid hb8.size
  have W_8 := Lib.hid (W_7.out.below hb8)
  have xza_8 := Lib.hid (xza_7.out.below hb8)
  have xzb_8 := Lib.hid (xzb_7.out.below hb8)
  have G_8 := Lib.hid (G_7.out.below hb8)
  clear hb8 W_7 xza_7 xzb_7 G_7
  go_wp2_with fail
  refine (to_rows za _ _ (Hza.out.below B8.out) (by omega) Fza.out).mono ?_
  rintro e w9 ⟨⟨r, rfl, ho⟩, hb9⟩
  have B9 := Lib.hid (B8.out.trans (hb9.mono B8.out.size))
  have S9 := Lib.hid hb9.size
  have W_9 := Lib.hid (W_8.out.below hb9)
  have xza_9 := Lib.hid (xza_8.out.below hb9)
  have xzb_9 := Lib.hid (xzb_8.out.below hb9)
  have G_9 := Lib.hid (G_8.out.below hb9)
  have tza_9 := Lib.hid ho
  clear hb9 W_8 xza_8 xzb_8 G_8 ho
  go_wp2_with fail
  refine (eq_rows za _ _ _ xza_9.out.rw tza_9.out.rw).mono ?_
  rintro e w10 ⟨rfl, hb10⟩
  have B10 := Lib.hid (B9.out.trans (hb10.mono B9.out.size))
  have S10 := Lib.hid hb10.size
  have W_10 := Lib.hid (W_9.out.below hb10)
  have xza_10 := Lib.hid (xza_9.out.below hb10)
  have xzb_10 := Lib.hid (xzb_9.out.below hb10)
  have G_10 := Lib.hid (G_9.out.below hb10)
  have tza_10 := Lib.hid (tza_9.out.below hb10)
  clear hb10 W_9 xza_9 xzb_9 G_9 tza_9
  clear tza_10
  go_wp2_with fail
  refine (to_int zb _ _ (Hzb.out.below B10.out) lzb).mono ?_
  rintro e w11 ⟨⟨r, rfl, ho⟩, hb11⟩
  have B11 := Lib.hid (B10.out.trans (hb11.mono B10.out.size))
  have S11 := Lib.hid hb11.size
  have W_11 := Lib.hid (W_10.out.below hb11)
  have xza_11 := Lib.hid (xza_10.out.below hb11)
  have xzb_11 := Lib.hid (xzb_10.out.below hb11)
  have G_11 := Lib.hid (G_10.out.below hb11)
  have tzb_11 := Lib.hid (OwnV.of_owns ho)
  clear hb11 W_10 xza_10 xzb_10 G_10 ho
  go_wp2_with fail
  refine (eq_int zb _ _ _ xzb_11.out.sl tzb_11.out.sl).mono ?_
  rintro e w12 ⟨rfl, hb12⟩
  have B12 := Lib.hid (B11.out.trans (hb12.mono B11.out.size))
  have S12 := Lib.hid hb12.size
  have W_12 := Lib.hid (W_11.out.below hb12)
  have xza_12 := Lib.hid (xza_11.out.below hb12)
  have xzb_12 := Lib.hid (xzb_11.out.below hb12)
  have G_12 := Lib.hid (G_11.out.below hb12)
  have tzb_12 := Lib.hid (tzb_11.out.below hb12)
  clear hb12 W_11 xza_11 xzb_11 G_11 tzb_11
  clear tzb_12
  go_wp2_with fail
  refine (mark_rows za _ _ 1 nza _ _ (Nat.le_refl 1) Kza.out (by omega) xza_12.out).mono ?_
  rintro e w13 ⟨rfl, ho, hb13⟩
  have B13 := Lib.hid (B12.out.trans (hb13.below (by have := S1.out; have := S2.out; have := S3.out; have := S4.out; have := S5.out; have := S6.out; have := S7.out; have := S8.out; have := S9.out; have := S10.out; have := S11.out; have := S12.out; omega) (by have := S1.out; have := S2.out; have := S3.out; have := S4.out; have := S5.out; have := S6.out; have := S7.out; have := S8.out; have := S9.out; have := S10.out; have := S11.out; have := S12.out; omega)))
  have S13 := Lib.hid hb13.size
  have W_13 := Lib.hid (W_12.out.kept hb13 (by have := S1.out; have := S2.out; have := S3.out; have := S4.out; have := S5.out; have := S6.out; have := S7.out; have := S8.out; have := S9.out; have := S10.out; have := S11.out; have := S12.out; omega))
  have xzb_13 := Lib.hid (xzb_12.out.kept hb13 (by have := S1.out; have := S2.out; have := S3.out; have := S4.out; have := S5.out; have := S6.out; have := S7.out; have := S8.out; have := S9.out; have := S10.out; have := S11.out; have := S12.out; omega))
  have G_13 := Lib.hid (G_12.out.kept hb13 (by have := S1.out; have := S2.out; have := S3.out; have := S4.out; have := S5.out; have := S6.out; have := S7.out; have := S8.out; have := S9.out; have := S10.out; have := S11.out; have := S12.out; omega))
  have xza_13 := Lib.hid ho
  clear hb13 ho
  go_wp2_with fail
  refine (mark_int zb _ _ nza nzb _ _ kza Kzb.out (by omega) xzb_13.out).mono ?_
  rintro e w14 ⟨rfl, ho, hb14⟩
  have B14 := Lib.hid (B13.out.trans (hb14.below (by have := S1.out; have := S2.out; have := S3.out; have := S4.out; have := S5.out; have := S6.out; have := S7.out; have := S8.out; have := S9.out; have := S10.out; have := S11.out; have := S12.out; have := S13.out; omega) (by have := S1.out; have := S2.out; have := S3.out; have := S4.out; have := S5.out; have := S6.out; have := S7.out; have := S8.out; have := S9.out; have := S10.out; have := S11.out; have := S12.out; have := S13.out; omega)))
  have S14 := Lib.hid hb14.size
  have W_14 := Lib.hid (W_13.out.kept hb14 (by have := S1.out; have := S2.out; have := S3.out; have := S4.out; have := S5.out; have := S6.out; have := S7.out; have := S8.out; have := S9.out; have := S10.out; have := S11.out; have := S12.out; have := S13.out; omega))
  have xza_14 := Lib.hid (xza_13.out.kept hb14 (by have := S1.out; have := S2.out; have := S3.out; have := S4.out; have := S5.out; have := S6.out; have := S7.out; have := S8.out; have := S9.out; have := S10.out; have := S11.out; have := S12.out; have := S13.out; omega))
  have G_14 := Lib.hid (G_13.out.kept hb14 (by have := S1.out; have := S2.out; have := S3.out; have := S4.out; have := S5.out; have := S6.out; have := S7.out; have := S8.out; have := S9.out; have := S10.out; have := S11.out; have := S12.out; have := S13.out; omega))
  have xzb_14 := Lib.hid ho
  clear hb14 ho
  clear xza_14
  clear xzb_14
  go_wp2_with fail
  refine (eq_int R.1 _ _ _ G_14.out.sl W_14.out.sl).mono ?_
  rintro e w15 ⟨rfl, hb15⟩
  have B15 := Lib.hid (B14.out.trans (hb15.mono B14.out.size))
  have S15 := Lib.hid hb15.size
  have W_15 := Lib.hid (W_14.out.below hb15)
  have G_15 := Lib.hid (G_14.out.below hb15)
  clear hb15 W_14 G_14
  have ml := HRL.out
  obtain ⟨mm, hmm⟩ : ∃ q : Nat, 1 + R.1.length = q := ⟨_, rfl⟩
  have gmm : mm ≤ 4611686018427387904 := by omega
  have KM := Lib.hid hmm
  clear ml hmm
  go_wp2_with fail
  refine (mark_int R.1 _ _ 1 mm _ _ (Nat.le_refl 1) KM.out (by omega) G_15.out).mono ?_
  rintro e w16 ⟨rfl, ho, hb16⟩
  have B16 := Lib.hid (B15.out.trans (hb16.below (by have := S1.out; have := S2.out; have := S3.out; have := S4.out; have := S5.out; have := S6.out; have := S7.out; have := S8.out; have := S9.out; have := S10.out; have := S11.out; have := S12.out; have := S13.out; have := S14.out; have := S15.out; omega) (by have := S1.out; have := S2.out; have := S3.out; have := S4.out; have := S5.out; have := S6.out; have := S7.out; have := S8.out; have := S9.out; have := S10.out; have := S11.out; have := S12.out; have := S13.out; have := S14.out; have := S15.out; omega)))
  have S16 := Lib.hid hb16.size
  have W_16 := Lib.hid (W_15.out.kept hb16 (by have := S1.out; have := S2.out; have := S3.out; have := S4.out; have := S5.out; have := S6.out; have := S7.out; have := S8.out; have := S9.out; have := S10.out; have := S11.out; have := S12.out; have := S13.out; have := S14.out; have := S15.out; omega))
  have G_16 := Lib.hid ho
  clear hb16 ho
  go_wp2_with fail
  refine (held_int _ R.1.length 1 mm _ (Nat.le_refl 1) KM.out gmm G_16.out.sl).mono ?_
  rintro e w17 ⟨rfl, hb17⟩
  have B17 := Lib.hid (B16.out.trans (hb17.mono B16.out.size))
  have S17 := Lib.hid hb17.size
  have W_17 := Lib.hid (W_16.out.below hb17)
  have G_17 := Lib.hid (G_16.out.below hb17)
  clear hb17 W_16 G_16
  go_wp2_with fail
  refine (to_rows za _ _ (Hza.out.below B17.out) (by omega) Fza.out).mono ?_
  rintro e w18 ⟨⟨r, rfl, ho⟩, hb18⟩
  have B18 := Lib.hid (B17.out.trans (hb18.mono B17.out.size))
  have S18 := Lib.hid hb18.size
  have W_18 := Lib.hid (W_17.out.below hb18)
  have G_18 := Lib.hid (G_17.out.below hb18)
  have dza_18 := Lib.hid ho
  clear hb18 W_17 G_17 ho
  go_wp2_with fail
  refine (to_int zb _ _ (Hzb.out.below B18.out) lzb).mono ?_
  rintro e w19 ⟨⟨r, rfl, ho⟩, hb19⟩
  have B19 := Lib.hid (B18.out.trans (hb19.mono B18.out.size))
  have S19 := Lib.hid hb19.size
  have W_19 := Lib.hid (W_18.out.below hb19)
  have G_19 := Lib.hid (G_18.out.below hb19)
  have dza_19 := Lib.hid (dza_18.out.below hb19)
  have dzb_19 := Lib.hid (OwnV.of_owns ho)
  clear hb19 W_18 G_18 dza_18 ho
  go_wp2_with fail
  refine (HI.out _ _ _ dza_19.out.rw dzb_19.out.sl ).mono ?_
  rintro e w20 ⟨⟨r, rfl, ho⟩, hb20⟩
  have B20 := Lib.hid (B19.out.trans (hb20.mono B19.out.size))
  have S20 := Lib.hid hb20.size
  have W_20 := Lib.hid (W_19.out.below hb20)
  have G_20 := Lib.hid (G_19.out.below hb20)
  have dza_20 := Lib.hid (dza_19.out.below hb20)
  have dzb_20 := Lib.hid (dzb_19.out.below hb20)
  have Z_20 := Lib.hid ho
  clear hb20 W_19 G_19 dza_19 dzb_19 ho
  clear dza_20
  clear dzb_20
  go_wp2_with fail
  refine (eq_int R.1 _ _ _ Z_20.out.sl W_20.out.sl).mono ?_
  rintro e w21 ⟨rfl, hb21⟩
  have B21 := Lib.hid (B20.out.trans (hb21.mono B20.out.size))
  have S21 := Lib.hid hb21.size
  have W_21 := Lib.hid (W_20.out.below hb21)
  have G_21 := Lib.hid (G_20.out.below hb21)
  have Z_21 := Lib.hid (Z_20.out.below hb21)
  clear hb21 W_20 G_20 Z_20
  clear Z_21
  clear W_21
  go_wp2_with fail
  refine (held_int _ R.1.length 1 mm _ (Nat.le_refl 1) KM.out gmm G_21.out.sl).mono ?_
  rintro e w22 ⟨rfl, hb22⟩
  have B22 := Lib.hid (B21.out.trans (hb22.mono B21.out.size))
  have S22 := Lib.hid hb22.size
  have G_22 := Lib.hid (G_21.out.below hb22)
  clear hb22 G_21
  go_wp2_with fail
  go_ret
  exact ⟨rfl, B22.out⟩

theorem walk (za : List (List Int)) (vza : Value) (zb : List Int) (vzb : Value) (w : World) (hza : Rw w vza za) (hzb : Sl w vzb (intVals zb))    :
    Calls Try.prog 8 #[vza, vzb] w fun e w' => e = .returned (.bool true) ∧ Below w.heap.size w w' := by
  by_cases lzb : zb.length ≤ 1048576
  · by_cases lza : ((za.length + tot za) : Int) ≤ 1048576
    · exact walk_short za vza zb vzb w hza hzb  lzb lza 
    · exact walk_long1 za vza zb vzb w hzb hza lzb lza
  · exact walk_long0 za vza zb vzb w hzb  (by omega)

theorem own : ownKnob Try.prog.godebug = none := by kernel_rfl
theorem laidOut : laidOutB Try.prog = true := by kernel_rfl


set_option maxRecDepth 100000 in
set_option linter.unusedVariables false in
theorem contract (H : Type) (enc : TypeId × Value → H) (W : World) (base : Nat) (args : Array Value) (ds gs : List (DataW H)) (before : List MemPlace)
    (hval : ∀ (j : Nat) t v, Try.f8.params[j]? = some t → args[j]? = some v → Value.okWide Try.prog W .any base t v)
    (hW : DataW.Whole enc Try.prog Try.f8.params.toList Rows.fnExactClassLeaderSpec.vars false W args.toList ds gs before) :
    Calls Try.prog 8 args W fun e W' => ∃ v, e = .returned v ∧ Rows.fnExactClassLeaderSpec.post enc Try.prog Try.f8 false true false false W args v W' := by
  have hW' := hW
  obtain ⟨p, q, hA0, hV, rfl, hfz, hnd⟩ := hW
  have hA : DataW.TrodAll enc Try.prog W 0 (fun _ => true) true Try.f8.params.toList args.toList ds p := hA0
  rw [Try.params8] at hA hval
  obtain ⟨v0, vs0, d0, ds0, p0, q0, hargs, rfl, rfl, h0, r0⟩ := trodAll_cons hA
  obtain ⟨v1, vs1, d1, ds1, p1, q1, rfl, rfl, rfl, h1, r1⟩ := trodAll_cons r0
  obtain ⟨rfl, rfl, rfl⟩ := trodAll_nil r1
  obtain rfl : args = #[v0, v1] := by cases args; simp_all
  obtain ⟨zaA, zaL, zaC, rfl⟩ := okWide_slice Try.underlying22 (hval 0 22 v0 rfl rfl)
  obtain ⟨za, wza⟩ : ∃ zss : List (List Int), zss.length = zaL ∧ Rw W (.slice zaA zaL zaC) zss ∧ ∀ zs ∈ zss, ∀ z ∈ zs, (Lit.int .i64 z).wf = true := by
    obtain ⟨fuel, hf⟩ := h0
    exact rows_came Try.underlying22 Try.underlying31 Try.underlying3 (by kernel_rfl) (by kernel_rfl) hf
  obtain ⟨zbA, zbL, zbC, rfl⟩ := okWide_slice Try.underlying31 (hval 1 31 v1 rfl rfl)
  obtain ⟨zb, wzb⟩ : ∃ zs : List Int, zs.length = zbL ∧ Sl W (.slice zbA zbL zbC) (numVals .i64 zs) ∧ ∀ z ∈ zs, (Lit.int .i64 z).wf = true := by
    obtain ⟨fuel, hf⟩ := h1
    exact nums_came Try.underlying31 Try.underlying3 (by kernel_rfl) hf
  refine (walk za _ zb _ W wza.2.1 wzb.2.1   ).mono fun e W' ⟨he, hb⟩ => ?_
  subst he
  exact ⟨_, rfl, law_post laidOut (by kernel_rfl) rfl Try.underlying4 rfl hW' (fun ds' h => by match ds', h with | [d0, d1], _ => rfl) hb⟩


set_option maxRecDepth 100000 in
theorem lifted (os : Os) (started : os.Started) (H : Type) (enc : TypeId × Value → H) :
    ReturnsInHanded {} Try.checked os 8 .any (Rows.fnExactClassLeaderSpec.pre6 enc Try.prog Try.f8 Rows.fnExactClassLeaderRow.domain false) (Rows.fnExactClassLeaderSpec.post enc Try.prog Try.f8 false true false false) := by
  refine returnsInHanded_of_change (C := Try.checked) own started (by kernel_rfl) Try.func8
    (ChangeSpec.witness6 (enc := enc) (C := Try.checked) false ⟨#[], #[.slice none 0 0, .slice none 0 0], []⟩ 8 (by kernel_rfl) (by kernel_rfl) (by kernel_rfl) (by kernel_rfl)) ?_
  intro W base args ds gs before hval hW _ _
  exact contract H enc W base args ds gs before hval hW

theorem said : Rows.FnExactClassLeaderSaid :=
  OpenClaim.holds_of_wide 8 Try.f8 rfl rfl rfl rfl rfl rfl rfl ⟨rfl, rfl, rfl, rfl, rfl⟩ rfl rfl rfl rfl rfl (by kernel_rfl) Try.func8 (by kernel_rfl)
    (of_decide_eq_true (by kernel_rfl)) (by unfold Func.isWrapper; first | (rw [if_pos (by decide +kernel)]; kernel_rfl) | (rw [if_neg (by decide +kernel)]; exact ⟨rfl, rfl⟩))
    (fun os started H enc _ => lifted os started H enc)
end Go.Proofs.Yteenheidomfpkaa.fnExactClassLeader
