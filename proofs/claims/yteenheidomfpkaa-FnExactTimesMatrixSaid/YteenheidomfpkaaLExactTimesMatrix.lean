/- FnExactTimesMatrix holds for every input. Conditions: none. -/
import Derived.Test.YteenheidomfpkaaMatX
import Derived.Test.YteenheidomfpkaaGrdT
import Derived.Test.YteenheidomfpkaaRowTo
import Derived.Test.YteenheidomfpkaaRowEq
import Derived.Test.YteenheidomfpkaaRowMark
import Derived.Test.YteenheidomfpkaaIntTo
import Derived.Test.YteenheidomfpkaaIntEq
import Derived.Test.YteenheidomfpkaaIntMark
import Derived.Test.YteenheidomfpkaaLaw
import Derived.Test.YteenheidomfpkaaRows
namespace Go.Proofs.Yteenheidomfpkaa.fnExactTimesMatrix
open Go.ChangeShapes Go.WideShapes Go.ChangeAt Go.RowKit Go.Lib
open Go.ChangeMaps (open_string shut_string)
set_option linter.unusedVariables false in
set_option maxRecDepth 100000 in
set_option maxHeartbeats 400000 in
theorem walk_long0 (za : List (List Int)) (vza : Value) (zb : List (List Int)) (vzb : Value) (w : World) (hza : Rw w vza za)  (hl : ¬ ((za.length + tot za) : Int) ≤ 1048576) :
    Calls Try.prog 3 #[vza, vzb] w fun e w' => e = .returned (.bool true) ∧ Below w.heap.size w w' := by
  have Hza := Lib.hid hza
  obtain ⟨Aza, Cza, rfl, Mza, _⟩ := hza.shape
  unfold maxLen at Mza
  clear hza
  have Qza := Lib.hid (show szR za 1048576 = -1 from szR_small (by omega))
  have B0 := Lib.hid (Below.refl w.heap.size w)
  go_enter Try.func3, Try.ntmps3
  go_wp2_with fail
  refine (sz_rows za _ 1048576 _ (Hza.out.below B0.out) (by omega) (by omega)).mono ?_
  rintro e w1 ⟨rfl, hb1⟩
  rw [Qza.out]
  have B1 := Lib.hid (B0.out.trans (hb1.mono B0.out.size))
  have S1 := Lib.hid hb1.size
  clear hb1
  go_wp2_with fail
  go_ret
  exact ⟨rfl, B1.out⟩

set_option linter.unusedVariables false in
set_option maxRecDepth 100000 in
set_option maxHeartbeats 400000 in
theorem walk_long1 (za : List (List Int)) (vza : Value) (zb : List (List Int)) (vzb : Value) (w : World) (hza : Rw w vza za) (hzb : Rw w vzb zb) (lza : ((za.length + tot za) : Int) ≤ 1048576) (hl : ¬ ((zb.length + tot zb) : Int) ≤ 1048576 - (za.length + tot za)) :
    Calls Try.prog 3 #[vza, vzb] w fun e w' => e = .returned (.bool true) ∧ Below w.heap.size w w' := by
  have Hza := Lib.hid hza
  obtain ⟨Aza, Cza, rfl, Mza, _⟩ := hza.shape
  unfold maxLen at Mza
  clear hza
  have Hzb := Lib.hid hzb
  obtain ⟨Azb, Czb, rfl, Mzb, _⟩ := hzb.shape
  unfold maxLen at Mzb
  clear hzb
  obtain ⟨Lza, hLza⟩ : ∃ q : Int, 1048576 - za.length - tot za = q := ⟨_, rfl⟩
  have g1za : 0 ≤ Lza := by omega
  have g2za : Lza ≤ 1048576 := by omega
  have Qza := Lib.hid (show szR za 1048576 = Lza by rw [szR_fits (by omega), hLza])
  have Qzb := Lib.hid (show szR zb Lza = -1 from szR_small (by omega))
  clear hLza
  have B0 := Lib.hid (Below.refl w.heap.size w)
  go_enter Try.func3, Try.ntmps3
  go_wp2_with fail
  refine (sz_rows za _ 1048576 _ (Hza.out.below B0.out) (by omega) (by omega)).mono ?_
  rintro e w1 ⟨rfl, hb1⟩
  rw [Qza.out]
  have B1 := Lib.hid (B0.out.trans (hb1.mono B0.out.size))
  have S1 := Lib.hid hb1.size
  clear hb1
  go_wp2_with fail
  refine (sz_rows zb _ Lza _ (Hzb.out.below B1.out) (by omega) (by omega)).mono ?_
  rintro e w2 ⟨rfl, hb2⟩
  rw [Qzb.out]
  have B2 := Lib.hid (B1.out.trans (hb2.mono B1.out.size))
  have S2 := Lib.hid hb2.size
  clear hb2
  go_wp2_with fail
  go_ret
  exact ⟨rfl, B2.out⟩

set_option linter.unusedVariables false in
set_option maxRecDepth 100000 in
set_option maxHeartbeats 1600000 in
theorem walk_short (za : List (List Int)) (vza : Value) (zb : List (List Int)) (vzb : Value) (w : World) (hza : Rw w vza za) (hzb : Rw w vzb zb)  (lza : ((za.length + tot za) : Int) ≤ 1048576) (lzb : ((zb.length + tot zb) : Int) ≤ 1048576 - (za.length + tot za))  :
    Calls Try.prog 3 #[vza, vzb] w fun e w' => e = .returned (.bool true) ∧ Below w.heap.size w w' := by
  have HS := Lib.hid (fun (xza : Value) (xzb : Value) (w : World) (yza : Rw w xza za) (yzb : Rw w xzb zb)  => s_timesm za zb xza xzb w yza yzb)
  have HI := Lib.hid (fun (xza : Value) (xzb : Value) (w : World) (yza : Rw w xza za) (yzb : Rw w xzb zb)  => i_timesm za zb xza xzb w yza yzb)
  have HRL := Lib.hid (timesR_len za zb)
  generalize timesR za zb = R at HS HI HRL
  have Hza := Lib.hid hza
  obtain ⟨Aza, Cza, rfl, Mza, _⟩ := hza.shape
  unfold maxLen at Mza
  clear hza
  have Hzb := Lib.hid hzb
  obtain ⟨Azb, Czb, rfl, Mzb, _⟩ := hzb.shape
  unfold maxLen at Mzb
  clear hzb
  obtain ⟨Lza, hLza⟩ : ∃ q : Int, 1048576 - za.length - tot za = q := ⟨_, rfl⟩
  have g1za : 0 ≤ Lza := by omega
  have g2za : Lza ≤ 1048576 := by omega
  have Qza := Lib.hid (show szR za 1048576 = Lza by rw [szR_fits (by omega), hLza])
  obtain ⟨Lzb, hLzb⟩ : ∃ q : Int, Lza - zb.length - tot zb = q := ⟨_, rfl⟩
  have g1zb : 0 ≤ Lzb := by omega
  have g2zb : Lzb ≤ 1048576 := by omega
  have Qzb := Lib.hid (show szR zb Lza = Lzb by rw [szR_fits (by omega), hLzb])
  clear hLza
  clear hLzb
  have eza : ∀ (i : Nat) zs, za[i]? = some zs → zs.length ≤ 1048576 := fun i zs hz => by have h1 := lt_of_get hz; have h2 := row_le_tot h1; rw [List.getElem?_eq_getElem h1] at hz; obtain rfl := Option.some.inj hz; omega
  have Fza := Lib.hid eza
  clear eza
  have ezb : ∀ (i : Nat) zs, zb[i]? = some zs → zs.length ≤ 1048576 := fun i zs hz => by have h1 := lt_of_get hz; have h2 := row_le_tot h1; rw [List.getElem?_eq_getElem h1] at hz; obtain rfl := Option.some.inj hz; omega
  have Fzb := Lib.hid ezb
  clear ezb
  obtain ⟨nza, hnza⟩ : ∃ q : Nat, 1 + tot za = q := ⟨_, rfl⟩
  have kza : 1 ≤ nza := by omega
  have Kza := Lib.hid hnza
  have gza : nza ≤ 2097152 := by omega
  clear hnza
  obtain ⟨nzb, hnzb⟩ : ∃ q : Nat, nza + tot zb = q := ⟨_, rfl⟩
  have kzb : 1 ≤ nzb := by omega
  have Kzb := Lib.hid hnzb
  have gzb : nzb ≤ 4194304 := by omega
  clear hnzb
  have B0 := Lib.hid (Below.refl w.heap.size w)
  go_enter Try.func3, Try.ntmps3
  go_wp2_with fail
  refine (sz_rows za _ 1048576 _ (Hza.out.below B0.out) (by omega) (by omega)).mono ?_
  rintro e w1 ⟨rfl, hb1⟩
  rw [Qza.out]
  have B1 := Lib.hid (B0.out.trans (hb1.mono B0.out.size))
  have S1 := Lib.hid hb1.size
  clear hb1
  go_wp2_with fail
  refine (sz_rows zb _ Lza _ (Hzb.out.below B1.out) (by omega) (by omega)).mono ?_
  rintro e w2 ⟨rfl, hb2⟩
  rw [Qzb.out]
  have B2 := Lib.hid (B1.out.trans (hb2.mono B1.out.size))
  have S2 := Lib.hid hb2.size
  clear hb2
  go_wp2_with fail
  refine (to_rows za _ _ (Hza.out.below B2.out) (by omega) Fza.out).mono ?_
  rintro e w3 ⟨⟨r, rfl, ho⟩, hb3⟩
  have B3 := Lib.hid (B2.out.trans (hb3.mono B2.out.size))
  have S3 := Lib.hid hb3.size
  have cza_3 := Lib.hid ho
  clear hb3 ho
  go_wp2_with fail
  refine (to_rows zb _ _ (Hzb.out.below B3.out) (by omega) Fzb.out).mono ?_
  rintro e w4 ⟨⟨r, rfl, ho⟩, hb4⟩
  have B4 := Lib.hid (B3.out.trans (hb4.mono B3.out.size))
  have S4 := Lib.hid hb4.size
  have cza_4 := Lib.hid (cza_3.out.below hb4)
  have czb_4 := Lib.hid ho
  clear hb4 cza_3 ho
  go_wp2_with fail
  refine (HS.out _ _ _ cza_4.out.rw czb_4.out.rw ).mono ?_
  rintro e w5 ⟨⟨r, rfl, ho⟩, hb5⟩
  have B5 := Lib.hid (B4.out.trans (hb5.mono B4.out.size))
  have S5 := Lib.hid hb5.size
  have cza_5 := Lib.hid (cza_4.out.below hb5)
  have czb_5 := Lib.hid (czb_4.out.below hb5)
  have W_5 := Lib.hid ho
  clear hb5 cza_4 czb_4 ho
  clear cza_5
  clear czb_5
  go_wp2_with fail
  refine (to_rows za _ _ (Hza.out.below B5.out) (by omega) Fza.out).mono ?_
  rintro e w6 ⟨⟨r, rfl, ho⟩, hb6⟩
  have B6 := Lib.hid (B5.out.trans (hb6.mono B5.out.size))
  have S6 := Lib.hid hb6.size
  have W_6 := Lib.hid (W_5.out.below hb6)
  have xza_6 := Lib.hid ho
  clear hb6 W_5 ho
  go_wp2_with fail
  refine (to_rows zb _ _ (Hzb.out.below B6.out) (by omega) Fzb.out).mono ?_
  rintro e w7 ⟨⟨r, rfl, ho⟩, hb7⟩
  have B7 := Lib.hid (B6.out.trans (hb7.mono B6.out.size))
  have S7 := Lib.hid hb7.size
  have W_7 := Lib.hid (W_6.out.below hb7)
  have xza_7 := Lib.hid (xza_6.out.below hb7)
  have xzb_7 := Lib.hid ho
  clear hb7 W_6 xza_6 ho
  go_wp2_with fail
  refine (HI.out _ _ _ xza_7.out.rw xzb_7.out.rw ).mono ?_
  rintro e w8 ⟨⟨r, rfl, ho⟩, hb8⟩
  have B8 := Lib.hid (B7.out.trans (hb8.mono B7.out.size))
  have S8 := Lib.hid hb8.size
  have W_8 := Lib.hid (W_7.out.below hb8)
  have xza_8 := Lib.hid (xza_7.out.below hb8)
  have xzb_8 := Lib.hid (xzb_7.out.below hb8)
  have G_8 := Lib.hid ho
  clear hb8 W_7 xza_7 xzb_7 ho
  go_wp2_with fail
  refine (eq_rows R.1 _ _ _ G_8.out.rw W_8.out.rw).mono ?_
  rintro e w9 ⟨rfl, hb9⟩
  have B9 := Lib.hid (B8.out.trans (hb9.mono B8.out.size))
  have S9 := Lib.hid hb9.size
  have W_9 := Lib.hid (W_8.out.below hb9)
  have xza_9 := Lib.hid (xza_8.out.below hb9)
  have xzb_9 := Lib.hid (xzb_8.out.below hb9)
  have G_9 := Lib.hid (G_8.out.below hb9)
  clear hb9 W_8 xza_8 xzb_8 G_8
  go_wp2_with fail
  refine (to_rows za _ _ (Hza.out.below B9.out) (by omega) Fza.out).mono ?_
  rintro e w10 ⟨⟨r, rfl, ho⟩, hb10⟩
  have B10 := Lib.hid (B9.out.trans (hb10.mono B9.out.size))
  have S10 := Lib.hid hb10.size
  have W_10 := Lib.hid (W_9.out.below hb10)
  have xza_10 := Lib.hid (xza_9.out.below hb10)
  have xzb_10 := Lib.hid (xzb_9.out.below hb10)
  have G_10 := Lib.hid (G_9.out.below hb10)
  have tza_10 := Lib.hid ho
  clear hb10 W_9 xza_9 xzb_9 G_9 ho
  go_wp2_with fail
  refine (eq_rows za _ _ _ xza_10.out.rw tza_10.out.rw).mono ?_
  rintro e w11 ⟨rfl, hb11⟩
  have B11 := Lib.hid (B10.out.trans (hb11.mono B10.out.size))
  have S11 := Lib.hid hb11.size
  have W_11 := Lib.hid (W_10.out.below hb11)
  have xza_11 := Lib.hid (xza_10.out.below hb11)
  have xzb_11 := Lib.hid (xzb_10.out.below hb11)
  have G_11 := Lib.hid (G_10.out.below hb11)
  have tza_11 := Lib.hid (tza_10.out.below hb11)
  clear hb11 W_10 xza_10 xzb_10 G_10 tza_10
  clear tza_11
  go_wp2_with fail
  refine (to_rows zb _ _ (Hzb.out.below B11.out) (by omega) Fzb.out).mono ?_
  rintro e w12 ⟨⟨r, rfl, ho⟩, hb12⟩
  have B12 := Lib.hid (B11.out.trans (hb12.mono B11.out.size))
  have S12 := Lib.hid hb12.size
  have W_12 := Lib.hid (W_11.out.below hb12)
  have xza_12 := Lib.hid (xza_11.out.below hb12)
  have xzb_12 := Lib.hid (xzb_11.out.below hb12)
  have G_12 := Lib.hid (G_11.out.below hb12)
  have tzb_12 := Lib.hid ho
  clear hb12 W_11 xza_11 xzb_11 G_11 ho
  go_wp2_with fail
  refine (eq_rows zb _ _ _ xzb_12.out.rw tzb_12.out.rw).mono ?_
  rintro e w13 ⟨rfl, hb13⟩
  have B13 := Lib.hid (B12.out.trans (hb13.mono B12.out.size))
  have S13 := Lib.hid hb13.size
  have W_13 := Lib.hid (W_12.out.below hb13)
  have xza_13 := Lib.hid (xza_12.out.below hb13)
  have xzb_13 := Lib.hid (xzb_12.out.below hb13)
  have G_13 := Lib.hid (G_12.out.below hb13)
  have tzb_13 := Lib.hid (tzb_12.out.below hb13)
  clear hb13 W_12 xza_12 xzb_12 G_12 tzb_12
  clear tzb_13
  go_wp2_with fail
  refine (mark_rows za _ _ 1 nza _ _ (Nat.le_refl 1) Kza.out (by omega) xza_13.out).mono ?_
  rintro e w14 ⟨rfl, ho, hb14⟩
  have B14 := Lib.hid (B13.out.trans (hb14.below (by have := S1.out; have := S2.out; have := S3.out; have := S4.out; have := S5.out; have := S6.out; have := S7.out; have := S8.out; have := S9.out; have := S10.out; have := S11.out; have := S12.out; have := S13.out; omega) (by have := S1.out; have := S2.out; have := S3.out; have := S4.out; have := S5.out; have := S6.out; have := S7.out; have := S8.out; have := S9.out; have := S10.out; have := S11.out; have := S12.out; have := S13.out; omega)))
  have S14 := Lib.hid hb14.size
  have W_14 := Lib.hid (W_13.out.kept hb14 (by have := S1.out; have := S2.out; have := S3.out; have := S4.out; have := S5.out; have := S6.out; have := S7.out; have := S8.out; have := S9.out; have := S10.out; have := S11.out; have := S12.out; have := S13.out; omega))
  have xzb_14 := Lib.hid (xzb_13.out.kept hb14 (by have := S1.out; have := S2.out; have := S3.out; have := S4.out; have := S5.out; have := S6.out; have := S7.out; have := S8.out; have := S9.out; have := S10.out; have := S11.out; have := S12.out; have := S13.out; omega))
  have G_14 := Lib.hid (G_13.out.kept hb14 (by have := S1.out; have := S2.out; have := S3.out; have := S4.out; have := S5.out; have := S6.out; have := S7.out; have := S8.out; have := S9.out; have := S10.out; have := S11.out; have := S12.out; have := S13.out; omega))
  have xza_14 := Lib.hid ho
  clear hb14 ho
  go_wp2_with fail
  refine (mark_rows zb _ _ nza nzb _ _ kza Kzb.out (by omega) xzb_14.out).mono ?_
  rintro e w15 ⟨rfl, ho, hb15⟩
  have B15 := Lib.hid (B14.out.trans (hb15.below (by have := S1.out; have := S2.out; have := S3.out; have := S4.out; have := S5.out; have := S6.out; have := S7.out; have := S8.out; have := S9.out; have := S10.out; have := S11.out; have := S12.out; have := S13.out; have := S14.out; omega) (by have := S1.out; have := S2.out; have := S3.out; have := S4.out; have := S5.out; have := S6.out; have := S7.out; have := S8.out; have := S9.out; have := S10.out; have := S11.out; have := S12.out; have := S13.out; have := S14.out; omega)))
  have S15 := Lib.hid hb15.size
  have W_15 := Lib.hid (W_14.out.kept hb15 (by have := S1.out; have := S2.out; have := S3.out; have := S4.out; have := S5.out; have := S6.out; have := S7.out; have := S8.out; have := S9.out; have := S10.out; have := S11.out; have := S12.out; have := S13.out; have := S14.out; omega))
  have xza_15 := Lib.hid (xza_14.out.kept hb15 (by have := S1.out; have := S2.out; have := S3.out; have := S4.out; have := S5.out; have := S6.out; have := S7.out; have := S8.out; have := S9.out; have := S10.out; have := S11.out; have := S12.out; have := S13.out; have := S14.out; omega))
  have G_15 := Lib.hid (G_14.out.kept hb15 (by have := S1.out; have := S2.out; have := S3.out; have := S4.out; have := S5.out; have := S6.out; have := S7.out; have := S8.out; have := S9.out; have := S10.out; have := S11.out; have := S12.out; have := S13.out; have := S14.out; omega))
  have xzb_15 := Lib.hid ho
  clear hb15 ho
  clear xza_15
  clear xzb_15
  go_wp2_with fail
  refine (eq_rows R.1 _ _ _ G_15.out.rw W_15.out.rw).mono ?_
  rintro e w16 ⟨rfl, hb16⟩
  have B16 := Lib.hid (B15.out.trans (hb16.mono B15.out.size))
  have S16 := Lib.hid hb16.size
  have W_16 := Lib.hid (W_15.out.below hb16)
  have G_16 := Lib.hid (G_15.out.below hb16)
  clear hb16 W_15 G_15
  have ml := HRL.out
  obtain ⟨mm, hmm⟩ : ∃ q : Nat, 1 + tot R.1 = q := ⟨_, rfl⟩
  have gmm : mm ≤ 4611686018427387904 := by omega
  have KM := Lib.hid hmm
  clear ml hmm
  go_wp2_with fail
  refine (mark_rows R.1 _ _ 1 mm _ _ (Nat.le_refl 1) KM.out (by omega) G_16.out).mono ?_
  rintro e w17 ⟨rfl, ho, hb17⟩
  have B17 := Lib.hid (B16.out.trans (hb17.below (by have := S1.out; have := S2.out; have := S3.out; have := S4.out; have := S5.out; have := S6.out; have := S7.out; have := S8.out; have := S9.out; have := S10.out; have := S11.out; have := S12.out; have := S13.out; have := S14.out; have := S15.out; have := S16.out; omega) (by have := S1.out; have := S2.out; have := S3.out; have := S4.out; have := S5.out; have := S6.out; have := S7.out; have := S8.out; have := S9.out; have := S10.out; have := S11.out; have := S12.out; have := S13.out; have := S14.out; have := S15.out; have := S16.out; omega)))
  have S17 := Lib.hid hb17.size
  have W_17 := Lib.hid (W_16.out.kept hb17 (by have := S1.out; have := S2.out; have := S3.out; have := S4.out; have := S5.out; have := S6.out; have := S7.out; have := S8.out; have := S9.out; have := S10.out; have := S11.out; have := S12.out; have := S13.out; have := S14.out; have := S15.out; have := S16.out; omega))
  have G_17 := Lib.hid ho
  clear hb17 ho
  go_wp2_with fail
  refine (held_rows _ R.1 1 mm _ (Nat.le_refl 1) KM.out gmm G_17.out.rw).mono ?_
  rintro e w18 ⟨rfl, hb18⟩
  have B18 := Lib.hid (B17.out.trans (hb18.mono B17.out.size))
  have S18 := Lib.hid hb18.size
  have W_18 := Lib.hid (W_17.out.below hb18)
  have G_18 := Lib.hid (G_17.out.below hb18)
  clear hb18 W_17 G_17
  go_wp2_with fail
  refine (to_rows za _ _ (Hza.out.below B18.out) (by omega) Fza.out).mono ?_
  rintro e w19 ⟨⟨r, rfl, ho⟩, hb19⟩
  have B19 := Lib.hid (B18.out.trans (hb19.mono B18.out.size))
  have S19 := Lib.hid hb19.size
  have W_19 := Lib.hid (W_18.out.below hb19)
  have G_19 := Lib.hid (G_18.out.below hb19)
  have dza_19 := Lib.hid ho
  clear hb19 W_18 G_18 ho
  go_wp2_with fail
  refine (to_rows zb _ _ (Hzb.out.below B19.out) (by omega) Fzb.out).mono ?_
  rintro e w20 ⟨⟨r, rfl, ho⟩, hb20⟩
  have B20 := Lib.hid (B19.out.trans (hb20.mono B19.out.size))
  have S20 := Lib.hid hb20.size
  have W_20 := Lib.hid (W_19.out.below hb20)
  have G_20 := Lib.hid (G_19.out.below hb20)
  have dza_20 := Lib.hid (dza_19.out.below hb20)
  have dzb_20 := Lib.hid ho
  clear hb20 W_19 G_19 dza_19 ho
  go_wp2_with fail
  refine (HI.out _ _ _ dza_20.out.rw dzb_20.out.rw ).mono ?_
  rintro e w21 ⟨⟨r, rfl, ho⟩, hb21⟩
  have B21 := Lib.hid (B20.out.trans (hb21.mono B20.out.size))
  have S21 := Lib.hid hb21.size
  have W_21 := Lib.hid (W_20.out.below hb21)
  have G_21 := Lib.hid (G_20.out.below hb21)
  have dza_21 := Lib.hid (dza_20.out.below hb21)
  have dzb_21 := Lib.hid (dzb_20.out.below hb21)
  have Z_21 := Lib.hid ho
  clear hb21 W_20 G_20 dza_20 dzb_20 ho
  clear dza_21
  clear dzb_21
  go_wp2_with fail
  refine (eq_rows R.1 _ _ _ Z_21.out.rw W_21.out.rw).mono ?_
  rintro e w22 ⟨rfl, hb22⟩
  have B22 := Lib.hid (B21.out.trans (hb22.mono B21.out.size))
  have S22 := Lib.hid hb22.size
  have W_22 := Lib.hid (W_21.out.below hb22)
  have G_22 := Lib.hid (G_21.out.below hb22)
  have Z_22 := Lib.hid (Z_21.out.below hb22)
  clear hb22 W_21 G_21 Z_21
  clear Z_22
  clear W_22
  go_wp2_with fail
  refine (held_rows _ R.1 1 mm _ (Nat.le_refl 1) KM.out gmm G_22.out.rw).mono ?_
  rintro e w23 ⟨rfl, hb23⟩
  have B23 := Lib.hid (B22.out.trans (hb23.mono B22.out.size))
  have S23 := Lib.hid hb23.size
  have G_23 := Lib.hid (G_22.out.below hb23)
  clear hb23 G_22
  go_wp2_with fail
  go_ret
  exact ⟨rfl, B23.out⟩

theorem walk (za : List (List Int)) (vza : Value) (zb : List (List Int)) (vzb : Value) (w : World) (hza : Rw w vza za) (hzb : Rw w vzb zb)    :
    Calls Try.prog 3 #[vza, vzb] w fun e w' => e = .returned (.bool true) ∧ Below w.heap.size w w' := by
  by_cases lza : ((za.length + tot za) : Int) ≤ 1048576
  · by_cases lzb : ((zb.length + tot zb) : Int) ≤ 1048576 - (za.length + tot za)
    · exact walk_short za vza zb vzb w hza hzb  lza lzb 
    · exact walk_long1 za vza zb vzb w hza hzb lza lzb
  · exact walk_long0 za vza zb vzb w hza  lza

theorem own : ownKnob Try.prog.godebug = none := by kernel_rfl
theorem laidOut : laidOutB Try.prog = true := by kernel_rfl


set_option maxRecDepth 100000 in
set_option linter.unusedVariables false in
theorem contract (H : Type) (enc : TypeId × Value → H) (W : World) (base : Nat) (args : Array Value) (ds gs : List (DataW H)) (before : List MemPlace)
    (hval : ∀ (j : Nat) t v, Try.f3.params[j]? = some t → args[j]? = some v → Value.okWide Try.prog W .any base t v)
    (hW : DataW.Whole enc Try.prog Try.f3.params.toList Rows.fnExactTimesMatrixSpec.vars false W args.toList ds gs before) :
    Calls Try.prog 3 args W fun e W' => ∃ v, e = .returned v ∧ Rows.fnExactTimesMatrixSpec.post enc Try.prog Try.f3 false true false false W args v W' := by
  have hW' := hW
  obtain ⟨p, q, hA0, hV, rfl, hfz, hnd⟩ := hW
  have hA : DataW.TrodAll enc Try.prog W 0 (fun _ => true) true Try.f3.params.toList args.toList ds p := hA0
  rw [Try.params3] at hA hval
  obtain ⟨v0, vs0, d0, ds0, p0, q0, hargs, rfl, rfl, h0, r0⟩ := trodAll_cons hA
  obtain ⟨v1, vs1, d1, ds1, p1, q1, rfl, rfl, rfl, h1, r1⟩ := trodAll_cons r0
  obtain ⟨rfl, rfl, rfl⟩ := trodAll_nil r1
  obtain rfl : args = #[v0, v1] := by cases args; simp_all
  obtain ⟨zaA, zaL, zaC, rfl⟩ := okWide_slice Try.underlying22 (hval 0 22 v0 rfl rfl)
  obtain ⟨za, wza⟩ : ∃ zss : List (List Int), zss.length = zaL ∧ Rw W (.slice zaA zaL zaC) zss ∧ ∀ zs ∈ zss, ∀ z ∈ zs, (Lit.int .i64 z).wf = true := by
    obtain ⟨fuel, hf⟩ := h0
    exact rows_came Try.underlying22 Try.underlying31 Try.underlying3 (by kernel_rfl) (by kernel_rfl) hf
  obtain ⟨zbA, zbL, zbC, rfl⟩ := okWide_slice Try.underlying22 (hval 1 22 v1 rfl rfl)
  obtain ⟨zb, wzb⟩ : ∃ zss : List (List Int), zss.length = zbL ∧ Rw W (.slice zbA zbL zbC) zss ∧ ∀ zs ∈ zss, ∀ z ∈ zs, (Lit.int .i64 z).wf = true := by
    obtain ⟨fuel, hf⟩ := h1
    exact rows_came Try.underlying22 Try.underlying31 Try.underlying3 (by kernel_rfl) (by kernel_rfl) hf
  refine (walk za _ zb _ W wza.2.1 wzb.2.1   ).mono fun e W' ⟨he, hb⟩ => ?_
  subst he
  exact ⟨_, rfl, law_post laidOut (by kernel_rfl) rfl Try.underlying4 rfl hW' (fun ds' h => by match ds', h with | [d0, d1], _ => rfl) hb⟩


set_option maxRecDepth 100000 in
theorem lifted (os : Os) (started : os.Started) (H : Type) (enc : TypeId × Value → H) :
    ReturnsInHanded {} Try.checked os 3 .any (Rows.fnExactTimesMatrixSpec.pre6 enc Try.prog Try.f3 Rows.fnExactTimesMatrixRow.domain false) (Rows.fnExactTimesMatrixSpec.post enc Try.prog Try.f3 false true false false) := by
  refine returnsInHanded_of_change (C := Try.checked) own started (by kernel_rfl) Try.func3
    (ChangeSpec.witness6 (enc := enc) (C := Try.checked) false ⟨#[], #[.slice none 0 0, .slice none 0 0], []⟩ 8 (by kernel_rfl) (by kernel_rfl) (by kernel_rfl) (by kernel_rfl)) ?_
  intro W base args ds gs before hval hW _ _
  exact contract H enc W base args ds gs before hval hW

theorem said : Rows.FnExactTimesMatrixSaid :=
  OpenClaim.holds_of_wide 3 Try.f3 rfl rfl rfl rfl rfl rfl rfl ⟨rfl, rfl, rfl, rfl, rfl⟩ rfl rfl rfl rfl rfl (by kernel_rfl) Try.func3 (by kernel_rfl)
    (of_decide_eq_true (by kernel_rfl)) (by unfold Func.isWrapper; first | (rw [if_pos (by decide +kernel)]; kernel_rfl) | (rw [if_neg (by decide +kernel)]; exact ⟨rfl, rfl⟩))
    (fun os started H enc _ => lifted os started H enc)
end Go.Proofs.Yteenheidomfpkaa.fnExactTimesMatrix
