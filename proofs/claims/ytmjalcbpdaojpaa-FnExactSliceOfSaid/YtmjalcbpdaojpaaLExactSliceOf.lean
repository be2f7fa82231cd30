/- FnExactSliceOf holds for every input. Conditions: none. -/
import Derived.Test.YtmjalcbpdaojpaaPtZ
import Derived.Test.YtmjalcbpdaojpaaMak
import Derived.Test.YtmjalcbpdaojpaaMao
import Derived.Test.YtmjalcbpdaojpaaHfMark
import Derived.Test.YtmjalcbpdaojpaaMac
import Derived.Test.YtmjalcbpdaojpaaLaw
import Derived.Test.YtmjalcbpdaojpaaRows
namespace Go.Proofs.Ytmjalcbpdaojpaa.fnExactSliceOf
open Go.ChangeShapes Go.WideShapes Go.ChangeAt Go.RowKit Go.Lib
open Go.ChangeMaps (open_string shut_string)
set_option linter.unusedVariables false in
set_option maxRecDepth 100000 in
set_option maxHeartbeats 400000 in
theorem walk_long0 (za : Rgn) (vza : Value) (k : Int) (z : Int) (w : World) (hza : Rg w vza za)  (hl : ¬ (((za.2.length + totN za.2) : Nat) : Int) ≤ 1048576) :
    Calls Try.prog 8 #[vza, .int .i64 k, .int .i64 z] w fun e w' => e = .returned (.bool true) ∧ Below w.heap.size w w' := by
  have Hza := Lib.hid hza
  obtain ⟨Uza, rfl, _⟩ := hza
  have Qza := Lib.hid (show szHs za.2 1048576 = -1 from szHs_small (by omega))
  have B0 := Lib.hid (Below.refl w.heap.size w)
  have hb1 := below1 w (.cells #[.int .i64 za.1, Uza] 51)
  have B1 := Lib.hid (B0.out.trans (hb1.mono B0.out.size))
  have S1 := Lib.hid (alloc_lt w (.cells #[.int .i64 za.1, Uza] 51))
  have Pza_1 := Lib.hid (Bk.new w #[.int .i64 za.1, Uza] 51)
  clear hb1
  go_enter Try.func8, Try.ntmps8
  obtain ⟨⟨lPza0, lPza1⟩, -⟩ := Pza_1.out.two
  go_wp2_with fail
  refine (sz_region za _ 1048576 _ (Hza.out.below B1.out) (by omega) (by omega)).mono ?_
  rintro e w2 ⟨rfl, hb2⟩
  rw [Qza.out]
  have B2 := Lib.hid (B1.out.trans (hb2.mono B1.out.size))
  have S2 := Lib.hid hb2.size
  have Pza_2 := Lib.hid (Pza_1.out.below hb2)
  clear hb2 Pza_1
  clear lPza0 lPza1
  go_wp2_with fail
  go_ret
  exact ⟨rfl, B2.out⟩

set_option linter.unusedVariables false in
set_option maxRecDepth 100000 in
set_option maxHeartbeats 3200000 in
theorem walk_short (za : Rgn) (vza : Value) (k : Int) (z : Int) (w : World) (hza : Rg w vza za) (bk : -9223372036854775808 ≤ k ∧ k ≤ 9223372036854775807) (bz : -9223372036854775808 ≤ z ∧ z ≤ 9223372036854775807) (lza : (((za.2.length + totN za.2) : Nat) : Int) ≤ 1048576)  :
    Calls Try.prog 8 #[vza, .int .i64 k, .int .i64 z] w fun e w' => e = .returned (.bool true) ∧ Below w.heap.size w w' := by
  have HS := Lib.hid (fun (xza : Value) (w : World) (yza : Rg w xza za)  => s_sliceof za k z xza w yza)
  have HI := Lib.hid (fun (xza : Value) (w : World) (yza : Rg w xza za)  => i_sliceof za k z xza w yza)
  have HRL := Lib.hid (sliceR_tot za.1 za.2 k z)
  generalize sliceR za.1 za.2 k z = R at HS HI HRL
  have Hza := Lib.hid hza
  obtain ⟨Uza, rfl, _⟩ := hza
  obtain ⟨Lza, hLza⟩ : ∃ q : Int, 1048576 - za.2.length - totN za.2 = q := ⟨_, rfl⟩
  have g1za : 0 ≤ Lza := by omega
  have g2za : Lza ≤ 1048576 := by omega
  have Qza := Lib.hid (show szHs za.2 1048576 = Lza by rw [szHs_fits (by omega), hLza])
  clear hLza
  have eza : za.2.length ≤ 1048576 := by omega
  have fza : ∀ (i : Nat) h, za.2[i]? = some h → h.1.length ≤ 1048576 := fun i h hz => by have h1 := lt_of_get hz; have h2 := half_le_tot h1; rw [List.getElem?_eq_getElem h1] at hz; obtain rfl := Option.some.inj hz; omega
  have Tza := Lib.hid (totH_eq za.2)
  have Fza := Lib.hid fza
  clear fza
  obtain ⟨nza, hnza⟩ : ∃ q : Nat, 1 + totH za.2 = q := ⟨_, rfl⟩
  have kza : 1 ≤ nza := by omega
  have Kza := Lib.hid hnza
  have gza : nza ≤ 4194304 := by have := Tza.out; omega
  clear hnza
  have B0 := Lib.hid (Below.refl w.heap.size w)
  have hb1 := below1 w (.cells #[.int .i64 za.1, Uza] 51)
  have B1 := Lib.hid (B0.out.trans (hb1.mono B0.out.size))
  have S1 := Lib.hid (alloc_lt w (.cells #[.int .i64 za.1, Uza] 51))
  have Pza_1 := Lib.hid (Bk.new w #[.int .i64 za.1, Uza] 51)
  clear hb1
  go_enter Try.func8, Try.ntmps8
  obtain ⟨⟨lPza0, lPza1⟩, -⟩ := Pza_1.out.two
  go_wp2_with fail
  refine (sz_region za _ 1048576 _ (Hza.out.below B1.out) (by omega) (by omega)).mono ?_
  rintro e w2 ⟨rfl, hb2⟩
  rw [Qza.out]
  have B2 := Lib.hid (B1.out.trans (hb2.mono B1.out.size))
  have S2 := Lib.hid hb2.size
  have Pza_2 := Lib.hid (Pza_1.out.below hb2)
  clear hb2 Pza_1
  clear lPza0 lPza1
  obtain ⟨⟨lPza0, lPza1⟩, -⟩ := Pza_2.out.two
  go_wp2_with fail
  refine (to_region za _ _ (Hza.out.below B2.out) eza Fza.out).mono ?_
  rintro e w3 ⟨⟨_, rfl, x, rfl, ho⟩, hb3⟩
  obtain ⟨xacza, xccza, rfl, _⟩ := ho.hs.shape
  clear lPza0 lPza1
  have B3 := Lib.hid (B2.out.trans (hb3.mono B2.out.size))
  have S3 := Lib.hid hb3.size
  have Pza_3 := Lib.hid (Pza_2.out.below hb3)
  have cza_3 := Lib.hid ho
  clear hb3 Pza_2 ho
  go_wp2_with fail
  refine (HS.out _ _ ⟨_, rfl, cza_3.out.hs⟩ ).mono ?_
  rintro e w4 ⟨⟨_, rfl, x, rfl, ho⟩, hb4⟩
  obtain ⟨xaW, xcW, rfl, _⟩ := ho.hs.shape
  have B4 := Lib.hid (B3.out.trans (hb4.mono B3.out.size))
  have S4 := Lib.hid hb4.size
  have Pza_4 := Lib.hid (Pza_3.out.below hb4)
  have cza_4 := Lib.hid (cza_3.out.below hb4)
  have W_4 := Lib.hid ho
  clear hb4 Pza_3 cza_3 ho
  clear cza_4
  have hb5 := below1 w4 (.cells #[.int .i64 R.1.1, .slice xaW R.1.2.length xcW] 26)
  have B5 := Lib.hid (B4.out.trans (hb5.mono B4.out.size))
  have S5 := Lib.hid (alloc_lt w4 (.cells #[.int .i64 R.1.1, .slice xaW R.1.2.length xcW] 26))
  have Pza_5 := Lib.hid (Pza_4.out.below hb5)
  have W_5 := Lib.hid (W_4.out.below hb5)
  have BW_5 := Lib.hid (Bk.new w4 #[.int .i64 R.1.1, .slice xaW R.1.2.length xcW] 26)
  clear hb5 Pza_4 W_4
  obtain ⟨⟨lPza0, lPza1⟩, -⟩ := Pza_5.out.two
  go_wp2_with fail
  refine (to_region za _ _ (Hza.out.below B5.out) eza Fza.out).mono ?_
  rintro e w6 ⟨⟨_, rfl, x, rfl, ho⟩, hb6⟩
  obtain ⟨xaxza, xcxza, rfl, _⟩ := ho.hs.shape
  clear lPza0 lPza1
  have B6 := Lib.hid (B5.out.trans (hb6.mono B5.out.size))
  have S6 := Lib.hid hb6.size
  have Pza_6 := Lib.hid (Pza_5.out.below hb6)
  have W_6 := Lib.hid (W_5.out.below hb6)
  have BW_6 := Lib.hid (BW_5.out.below hb6)
  have xza_6 := Lib.hid ho
  clear hb6 Pza_5 W_5 BW_5 ho
  have hb7 := below1 w6 (.cells #[.int .i64 za.1, .slice xaxza za.2.length xcxza] 26)
  have B7 := Lib.hid (B6.out.trans (hb7.mono B6.out.size))
  have S7 := Lib.hid (alloc_lt w6 (.cells #[.int .i64 za.1, .slice xaxza za.2.length xcxza] 26))
  have Pza_7 := Lib.hid (Pza_6.out.below hb7)
  have W_7 := Lib.hid (W_6.out.below hb7)
  have BW_7 := Lib.hid (BW_6.out.below hb7)
  have xza_7 := Lib.hid (xza_6.out.below hb7)
  have Bxza_7 := Lib.hid (Bk.new w6 #[.int .i64 za.1, .slice xaxza za.2.length xcxza] 26)
  clear hb7 Pza_6 W_6 BW_6 xza_6
  obtain ⟨⟨lBxza0, lBxza1⟩, -⟩ := Bxza_7.out.two
  go_wp2_with fail
  refine (HI.out _ _ ⟨_, rfl, xza_7.out.hs⟩ ).mono ?_
  rintro e w8 ⟨⟨_, rfl, x, rfl, ho⟩, hb8⟩
  obtain ⟨xaG, xcG, rfl, _⟩ := ho.hs.shape
  clear lBxza0 lBxza1
  have B8 := Lib.hid (B7.out.trans (hb8.mono B7.out.size))
  have S8 := Lib.hid hb8.size
  have Pza_8 := Lib.hid (Pza_7.out.below hb8)
  have W_8 := Lib.hid (W_7.out.below hb8)
  have BW_8 := Lib.hid (BW_7.out.below hb8)
  have xza_8 := Lib.hid (xza_7.out.below hb8)
  have Bxza_8 := Lib.hid (Bxza_7.out.below hb8)
  have G_8 := Lib.hid ho
  clear hb8 Pza_7 W_7 BW_7 xza_7 Bxza_7 ho
  have hb9 := below1 w8 (.cells #[.int .i64 R.1.1, .slice xaG R.1.2.length xcG] 26)
  have B9 := Lib.hid (B8.out.trans (hb9.mono B8.out.size))
  have S9 := Lib.hid (alloc_lt w8 (.cells #[.int .i64 R.1.1, .slice xaG R.1.2.length xcG] 26))
  have Pza_9 := Lib.hid (Pza_8.out.below hb9)
  have W_9 := Lib.hid (W_8.out.below hb9)
  have BW_9 := Lib.hid (BW_8.out.below hb9)
  have xza_9 := Lib.hid (xza_8.out.below hb9)
  have Bxza_9 := Lib.hid (Bxza_8.out.below hb9)
  have G_9 := Lib.hid (G_8.out.below hb9)
  have BG_9 := Lib.hid (Bk.new w8 #[.int .i64 R.1.1, .slice xaG R.1.2.length xcG] 26)
  clear hb9 Pza_8 W_8 BW_8 xza_8 Bxza_8 G_8
  obtain ⟨⟨lBG0, lBG1⟩, -⟩ := BG_9.out.two
  obtain ⟨⟨lBW0, lBW1⟩, -⟩ := BW_9.out.two
  go_wp2_with fail
  refine (eq_region R.1 _ _ _ ⟨_, rfl, G_9.out.hs⟩ ⟨_, rfl, W_9.out.hs⟩).mono ?_
  rintro e w10 ⟨rfl, hb10⟩
  have B10 := Lib.hid (B9.out.trans (hb10.mono B9.out.size))
  have S10 := Lib.hid hb10.size
  have Pza_10 := Lib.hid (Pza_9.out.below hb10)
  have W_10 := Lib.hid (W_9.out.below hb10)
  have BW_10 := Lib.hid (BW_9.out.below hb10)
  have xza_10 := Lib.hid (xza_9.out.below hb10)
  have Bxza_10 := Lib.hid (Bxza_9.out.below hb10)
  have G_10 := Lib.hid (G_9.out.below hb10)
  have BG_10 := Lib.hid (BG_9.out.below hb10)
  clear hb10 Pza_9 W_9 BW_9 xza_9 Bxza_9 G_9 BG_9
  clear lBG0 lBG1 lBW0 lBW1
  have DX := Lib.hid Bxza_10.out.two.1
  have DP := Lib.hid Pza_10.out.two.1
  have LX := Lib.hid Bxza_10.out.lt
  have LP := Lib.hid Pza_10.out.lt
  have RX := Lib.hid (show Rg w10 (.agg #[.int .i64 za.1, .slice xaxza za.2.length xcxza]) za from ⟨_, rfl, xza_10.out.hs⟩)
  obtain ⟨lx0, lx1⟩ := DX.out
  obtain ⟨lp0, lp1⟩ := DP.out
  go_wp2_with fail
  go_region_held3 (fun w' => w'.cell? ⟨w6.heap.size, 0, none⟩ = some (.int .i64 za.1) ∧ w'.cell? ⟨w6.heap.size, 1, none⟩ = some (.slice xaxza za.2.length xcxza) ∧ w'.cell? ⟨w.heap.size, 0, none⟩ = some (.int .i64 za.1) ∧ w'.cell? ⟨w.heap.size, 1, none⟩ = some (Uza) ∧ Below w10.heap.size w10 w')
    (first | with_reducible exact keepF4 lx0 lx1 lp0 lp1 (Below.refl _ _) | (go_split_ands; with_reducible exact keepE4 LX.out LX.out LP.out LP.out (by assumption) (by assumption) (by assumption) (by assumption) (by assumption) (by assumption)) | go_keep)
    (first | (go_at_call 31; refine (to_region za _ _ (Hza.out.below (B10.out.drew)) eza Fza.out).mono ?_; rintro e w1 ⟨⟨_, rfl, x, rfl, ho⟩, hb1⟩) | (go_at_call 33; refine (eq_region za _ _ _ (RX.out.below (draw_below hb1)) ⟨_, rfl, ho.hs⟩).mono ?_; rintro e w2 ⟨rfl, hb2⟩))
  rename_i hH
  obtain ⟨w11, hb11⟩ : ∃ q, Below w10.heap.size w10 q ∧ q = w2 := ⟨w2, hH.2.2.2.2, rfl⟩
  obtain ⟨hb11, rfl⟩ := hb11
  clear hH DX DP LX LP RX lx0 lx1 lp0 lp1 hb1 hb2 ho
  have B11 := Lib.hid (B10.out.trans (hb11.mono B10.out.size))
  have S11 := Lib.hid hb11.size
  have Pza_11 := Lib.hid (Pza_10.out.below hb11)
  have W_11 := Lib.hid (W_10.out.below hb11)
  have BW_11 := Lib.hid (BW_10.out.below hb11)
  have xza_11 := Lib.hid (xza_10.out.below hb11)
  have Bxza_11 := Lib.hid (Bxza_10.out.below hb11)
  have G_11 := Lib.hid (G_10.out.below hb11)
  have BG_11 := Lib.hid (BG_10.out.below hb11)
  clear hb11 Pza_10 W_10 BW_10 xza_10 Bxza_10 G_10 BG_10
  obtain ⟨⟨lBxza0, lBxza1⟩, -⟩ := Bxza_11.out.two
  go_wp2_with fail
  refine (mark_region za _ _ 1 nza _ _ (Nat.le_refl 1) Kza.out (by omega) ⟨_, rfl, xza_11.out⟩).mono ?_
  rintro e w12 ⟨rfl, ⟨_, hag, ho⟩, hb12⟩
  obtain rfl := agg_snd hag.symm
  have B12 := Lib.hid (B11.out.trans (hb12.below (by have := S1.out; have := S2.out; have := S3.out; have := S4.out; have := S5.out; have := S6.out; have := S7.out; have := S8.out; have := S9.out; have := S10.out; have := S11.out; omega) (by have := S1.out; have := S2.out; have := S3.out; have := S4.out; have := S5.out; have := S6.out; have := S7.out; have := S8.out; have := S9.out; have := S10.out; have := S11.out; omega)))
  have S12 := Lib.hid hb12.size
  have Pza_12 := Lib.hid (Pza_11.out.kept hb12 (by have := S1.out; have := S2.out; have := S3.out; have := S4.out; have := S5.out; have := S6.out; have := S7.out; have := S8.out; have := S9.out; have := S10.out; have := S11.out; omega))
  have W_12 := Lib.hid (W_11.out.kept hb12 (by have := S1.out; have := S2.out; have := S3.out; have := S4.out; have := S5.out; have := S6.out; have := S7.out; have := S8.out; have := S9.out; have := S10.out; have := S11.out; omega))
  have BW_12 := Lib.hid (BW_11.out.kept hb12 (by have := S1.out; have := S2.out; have := S3.out; have := S4.out; have := S5.out; have := S6.out; have := S7.out; have := S8.out; have := S9.out; have := S10.out; have := S11.out; omega))
  have Bxza_12 := Lib.hid (Bxza_11.out.kept hb12 (by have := S1.out; have := S2.out; have := S3.out; have := S4.out; have := S5.out; have := S6.out; have := S7.out; have := S8.out; have := S9.out; have := S10.out; have := S11.out; omega))
  have G_12 := Lib.hid (G_11.out.kept hb12 (by have := S1.out; have := S2.out; have := S3.out; have := S4.out; have := S5.out; have := S6.out; have := S7.out; have := S8.out; have := S9.out; have := S10.out; have := S11.out; omega))
  have BG_12 := Lib.hid (BG_11.out.kept hb12 (by have := S1.out; have := S2.out; have := S3.out; have := S4.out; have := S5.out; have := S6.out; have := S7.out; have := S8.out; have := S9.out; have := S10.out; have := S11.out; omega))
  have xza_12 := Lib.hid ho
  clear hb12 ho hag
  clear lBxza0 lBxza1
  clear xza_12
  clear Bxza_12
  obtain ⟨⟨lBG0, lBG1⟩, -⟩ := BG_12.out.two
  obtain ⟨⟨lBW0, lBW1⟩, -⟩ := BW_12.out.two
  go_wp2_with fail
  refine (eq_region R.1 _ _ _ ⟨_, rfl, G_12.out.hs⟩ ⟨_, rfl, W_12.out.hs⟩).mono ?_
  rintro e w13 ⟨rfl, hb13⟩
  have B13 := Lib.hid (B12.out.trans (hb13.mono B12.out.size))
  have S13 := Lib.hid hb13.size
  have Pza_13 := Lib.hid (Pza_12.out.below hb13)
  have W_13 := Lib.hid (W_12.out.below hb13)
  have BW_13 := Lib.hid (BW_12.out.below hb13)
  have G_13 := Lib.hid (G_12.out.below hb13)
  have BG_13 := Lib.hid (BG_12.out.below hb13)
  clear hb13 Pza_12 W_12 BW_12 G_12 BG_12
  clear lBG0 lBG1 lBW0 lBW1
  have ml := HRL.out
  obtain ⟨mm, hmm⟩ : ∃ q : Nat, 1 + totH R.1.2 = q := ⟨_, rfl⟩
  have gmm : mm ≤ 4611686018427387904 := by omega
  have KM := Lib.hid hmm
  clear ml hmm
  obtain ⟨⟨lBG0, lBG1⟩, -⟩ := BG_13.out.two
  go_wp2_with fail
  refine (mark_region R.1 _ _ 1 mm _ _ (Nat.le_refl 1) KM.out (by omega) ⟨_, rfl, G_13.out⟩).mono ?_
  rintro e w14 ⟨rfl, ⟨_, hag, ho⟩, hb14⟩
  obtain rfl := agg_snd hag.symm
  have B14 := Lib.hid (B13.out.trans (hb14.below (by have := S1.out; have := S2.out; have := S3.out; have := S4.out; have := S5.out; have := S6.out; have := S7.out; have := S8.out; have := S9.out; have := S10.out; have := S11.out; have := S12.out; have := S13.out; omega) (by have := S1.out; have := S2.out; have := S3.out; have := S4.out; have := S5.out; have := S6.out; have := S7.out; have := S8.out; have := S9.out; have := S10.out; have := S11.out; have := S12.out; have := S13.out; omega)))
  have S14 := Lib.hid hb14.size
  have Pza_14 := Lib.hid (Pza_13.out.kept hb14 (by have := S1.out; have := S2.out; have := S3.out; have := S4.out; have := S5.out; have := S6.out; have := S7.out; have := S8.out; have := S9.out; have := S10.out; have := S11.out; have := S12.out; have := S13.out; omega))
  have W_14 := Lib.hid (W_13.out.kept hb14 (by have := S1.out; have := S2.out; have := S3.out; have := S4.out; have := S5.out; have := S6.out; have := S7.out; have := S8.out; have := S9.out; have := S10.out; have := S11.out; have := S12.out; have := S13.out; omega))
  have BW_14 := Lib.hid (BW_13.out.kept hb14 (by have := S1.out; have := S2.out; have := S3.out; have := S4.out; have := S5.out; have := S6.out; have := S7.out; have := S8.out; have := S9.out; have := S10.out; have := S11.out; have := S12.out; have := S13.out; omega))
  have BG_14 := Lib.hid (BG_13.out.kept hb14 (by have := S1.out; have := S2.out; have := S3.out; have := S4.out; have := S5.out; have := S6.out; have := S7.out; have := S8.out; have := S9.out; have := S10.out; have := S11.out; have := S12.out; have := S13.out; omega))
  have G_14 := Lib.hid ho
  clear hb14 ho hag
  clear lBG0 lBG1
  obtain ⟨⟨lBG0, lBG1⟩, -⟩ := BG_14.out.two
  go_wp2_with fail
  refine (held_region _ R.1 1 mm _ (Nat.le_refl 1) KM.out gmm ⟨_, rfl, G_14.out.hs⟩).mono ?_
  rintro e w15 ⟨rfl, hb15⟩
  have B15 := Lib.hid (B14.out.trans (hb15.mono B14.out.size))
  have S15 := Lib.hid hb15.size
  have Pza_15 := Lib.hid (Pza_14.out.below hb15)
  have W_15 := Lib.hid (W_14.out.below hb15)
  have BW_15 := Lib.hid (BW_14.out.below hb15)
  have G_15 := Lib.hid (G_14.out.below hb15)
  have BG_15 := Lib.hid (BG_14.out.below hb15)
  clear hb15 Pza_14 W_14 BW_14 G_14 BG_14
  clear lBG0 lBG1
  obtain ⟨⟨lPza0, lPza1⟩, -⟩ := Pza_15.out.two
  go_wp2_with fail
  refine (to_region za _ _ (Hza.out.below B15.out) eza Fza.out).mono ?_
  rintro e w16 ⟨⟨_, rfl, x, rfl, ho⟩, hb16⟩
  obtain ⟨xadza, xcdza, rfl, _⟩ := ho.hs.shape
  clear lPza0 lPza1
  have B16 := Lib.hid (B15.out.trans (hb16.mono B15.out.size))
  have S16 := Lib.hid hb16.size
  have Pza_16 := Lib.hid (Pza_15.out.below hb16)
  have W_16 := Lib.hid (W_15.out.below hb16)
  have BW_16 := Lib.hid (BW_15.out.below hb16)
  have G_16 := Lib.hid (G_15.out.below hb16)
  have BG_16 := Lib.hid (BG_15.out.below hb16)
  have dza_16 := Lib.hid ho
  clear hb16 Pza_15 W_15 BW_15 G_15 BG_15 ho
  go_wp2_with fail
  refine (HI.out _ _ ⟨_, rfl, dza_16.out.hs⟩ ).mono ?_
  rintro e w17 ⟨⟨_, rfl, x, rfl, ho⟩, hb17⟩
  obtain ⟨xaZ, xcZ, rfl, _⟩ := ho.hs.shape
  have B17 := Lib.hid (B16.out.trans (hb17.mono B16.out.size))
  have S17 := Lib.hid hb17.size
  have Pza_17 := Lib.hid (Pza_16.out.below hb17)
  have W_17 := Lib.hid (W_16.out.below hb17)
  have BW_17 := Lib.hid (BW_16.out.below hb17)
  have G_17 := Lib.hid (G_16.out.below hb17)
  have BG_17 := Lib.hid (BG_16.out.below hb17)
  have dza_17 := Lib.hid (dza_16.out.below hb17)
  have Z_17 := Lib.hid ho
  clear hb17 Pza_16 W_16 BW_16 G_16 BG_16 dza_16 ho
  clear dza_17
  have hb18 := below1 w17 (.cells #[.int .i64 R.1.1, .slice xaZ R.1.2.length xcZ] 26)
  have B18 := Lib.hid (B17.out.trans (hb18.mono B17.out.size))
  have S18 := Lib.hid (alloc_lt w17 (.cells #[.int .i64 R.1.1, .slice xaZ R.1.2.length xcZ] 26))
  have Pza_18 := Lib.hid (Pza_17.out.below hb18)
  have W_18 := Lib.hid (W_17.out.below hb18)
  have BW_18 := Lib.hid (BW_17.out.below hb18)
  have G_18 := Lib.hid (G_17.out.below hb18)
  have BG_18 := Lib.hid (BG_17.out.below hb18)
  have Z_18 := Lib.hid (Z_17.out.below hb18)
  have BZ_18 := Lib.hid (Bk.new w17 #[.int .i64 R.1.1, .slice xaZ R.1.2.length xcZ] 26)
  clear hb18 Pza_17 W_17 BW_17 G_17 BG_17 Z_17
  obtain ⟨⟨lBZ0, lBZ1⟩, -⟩ := BZ_18.out.two
  obtain ⟨⟨lBW0, lBW1⟩, -⟩ := BW_18.out.two
  go_wp2_with fail
  refine (eq_region R.1 _ _ _ ⟨_, rfl, Z_18.out.hs⟩ ⟨_, rfl, W_18.out.hs⟩).mono ?_
  rintro e w19 ⟨rfl, hb19⟩
  have B19 := Lib.hid (B18.out.trans (hb19.mono B18.out.size))
  have S19 := Lib.hid hb19.size
  have Pza_19 := Lib.hid (Pza_18.out.below hb19)
  have W_19 := Lib.hid (W_18.out.below hb19)
  have BW_19 := Lib.hid (BW_18.out.below hb19)
  have G_19 := Lib.hid (G_18.out.below hb19)
  have BG_19 := Lib.hid (BG_18.out.below hb19)
  have Z_19 := Lib.hid (Z_18.out.below hb19)
  have BZ_19 := Lib.hid (BZ_18.out.below hb19)
  clear hb19 Pza_18 W_18 BW_18 G_18 BG_18 Z_18 BZ_18
  clear lBZ0 lBZ1 lBW0 lBW1
  clear Z_19
  clear W_19
  clear BZ_19
  clear BW_19
  obtain ⟨⟨lBG0, lBG1⟩, -⟩ := BG_19.out.two
  go_wp2_with fail
  refine (held_region _ R.1 1 mm _ (Nat.le_refl 1) KM.out gmm ⟨_, rfl, G_19.out.hs⟩).mono ?_
  rintro e w20 ⟨rfl, hb20⟩
  have B20 := Lib.hid (B19.out.trans (hb20.mono B19.out.size))
  have S20 := Lib.hid hb20.size
  have Pza_20 := Lib.hid (Pza_19.out.below hb20)
  have G_20 := Lib.hid (G_19.out.below hb20)
  have BG_20 := Lib.hid (BG_19.out.below hb20)
  clear hb20 Pza_19 G_19 BG_19
  clear lBG0 lBG1
  go_wp2_with fail
  go_ret
  exact ⟨rfl, B20.out⟩

theorem walk (za : Rgn) (vza : Value) (k : Int) (z : Int) (w : World) (hza : Rg w vza za) (bk : -9223372036854775808 ≤ k ∧ k ≤ 9223372036854775807) (bz : -9223372036854775808 ≤ z ∧ z ≤ 9223372036854775807)   :
    Calls Try.prog 8 #[vza, .int .i64 k, .int .i64 z] w fun e w' => e = .returned (.bool true) ∧ Below w.heap.size w w' := by
  by_cases lza : (((za.2.length + totN za.2) : Nat) : Int) ≤ 1048576
  · exact walk_short za vza k z w hza bk bz lza 
  · exact walk_long0 za vza k z w hza  lza

theorem own : ownKnob Try.prog.godebug = none := by kernel_rfl
theorem laidOut : laidOutB Try.prog = true := by kernel_rfl


set_option maxRecDepth 100000 in
set_option linter.unusedVariables false in
theorem contract (H : Type) (enc : TypeId × Value → H) (W : World) (base : Nat) (args : Array Value) (ds gs : List (DataW H)) (before : List MemPlace)
    (hval : ∀ (j : Nat) t v, Try.f8.params[j]? = some t → args[j]? = some v → Value.okWide Try.prog W .any base t v)
    (hW : DataW.Whole enc Try.prog Try.f8.params.toList Rows.fnExactSliceOfSpec.vars false W args.toList ds gs before) :
    Calls Try.prog 8 args W fun e W' => ∃ v, e = .returned v ∧ Rows.fnExactSliceOfSpec.post enc Try.prog Try.f8 false true false false W args v W' := by
  have hW' := hW
  obtain ⟨p, q, hA0, hV, rfl, hfz, hnd⟩ := hW
  have hA : DataW.TrodAll enc Try.prog W 0 (fun _ => true) true Try.f8.params.toList args.toList ds p := hA0
  rw [Try.params8] at hA hval
  obtain ⟨v0, vs0, d0, ds0, p0, q0, hargs, rfl, rfl, h0, r0⟩ := trodAll_cons hA
  obtain ⟨v1, vs1, d1, ds1, p1, q1, rfl, rfl, rfl, h1, r1⟩ := trodAll_cons r0
  obtain ⟨v2, vs2, d2, ds2, p2, q2, rfl, rfl, rfl, h2, r2⟩ := trodAll_cons r1
  obtain ⟨rfl, rfl, rfl⟩ := trodAll_nil r2
  obtain rfl : args = #[v0, v1, v2] := by cases args; simp_all
  obtain ⟨za, wza⟩ : ∃ z : Rgn, True ∧ Rg W v0 z ∧ (Lit.int .i64 z.1).wf = true ∧ HWf z.2 := rg_came Try.underlying51 (by kernel_rfl) (by kernel_rfl) Try.underlying3 Try.underlying49 Try.underlying106 (by kernel_rfl) rfl rfl (by kernel_rfl) (by kernel_rfl) Try.underlying30 Try.underlying3 (by kernel_rfl) Try.underlying3 (hval 0 51 v0 rfl rfl) h0
  obtain ⟨k, rfl, rfl, rfl, wk⟩ := open_int Try.underlying3 (hval 1 3 v1 rfl rfl) h1
  have bk := bounds_i64 wk
  obtain ⟨z, rfl, rfl, rfl, wz⟩ := open_int Try.underlying3 (hval 2 3 v2 rfl rfl) h2
  have bz := bounds_i64 wz
  refine (walk za _ k z W wza.2.1 bk bz  ).mono fun e W' ⟨he, hb⟩ => ?_
  subst he
  exact ⟨_, rfl, law_post laidOut (by kernel_rfl) rfl Try.underlying4 rfl hW' (fun ds' h => by match ds', h with | [d0, d1, d2], _ => rfl) hb⟩


set_option maxRecDepth 100000 in
theorem lifted (os : Os) (started : os.Started) (H : Type) (enc : TypeId × Value → H) :
    ReturnsInHanded {} Try.checked os 8 .any (Rows.fnExactSliceOfSpec.pre6 enc Try.prog Try.f8 Rows.fnExactSliceOfRow.domain false) (Rows.fnExactSliceOfSpec.post enc Try.prog Try.f8 false true false false) := by
  refine returnsInHanded_of_change (C := Try.checked) own started (by kernel_rfl) Try.func8
    (ChangeSpec.witness6 (enc := enc) (C := Try.checked) false ⟨#[], #[.agg #[.int .i64 0, .slice none 0 0], .int .i64 0, .int .i64 0], []⟩ 8 (by kernel_rfl) (by kernel_rfl) (by kernel_rfl) (by kernel_rfl)) ?_
  intro W base args ds gs before hval hW _ _
  exact contract H enc W base args ds gs before hval hW

theorem said : Rows.FnExactSliceOfSaid :=
  OpenClaim.holds_of_wide 8 Try.f8 rfl rfl rfl rfl rfl rfl rfl ⟨rfl, rfl, rfl, rfl, rfl⟩ rfl rfl rfl rfl rfl (by kernel_rfl) Try.func8 (by kernel_rfl)
    (of_decide_eq_true (by kernel_rfl)) (by unfold Func.isWrapper; first | (rw [if_pos (by decide +kernel)]; kernel_rfl) | (rw [if_neg (by decide +kernel)]; exact ⟨rfl, rfl⟩))
    (fun os started H enc _ => lifted os started H enc)
end Go.Proofs.Ytmjalcbpdaojpaa.fnExactSliceOf
