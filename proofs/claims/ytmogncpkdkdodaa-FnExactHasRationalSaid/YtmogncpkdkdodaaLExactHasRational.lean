/- FnExactHasRational holds for every input. Conditions: none. -/
import Derived.Test.YtmogncpkdkdodaaRatH
import Derived.Test.YtmogncpkdkdodaaRatK
import Derived.Test.YtmogncpkdkdodaaHfCame
import Derived.Test.YtmogncpkdkdodaaHfSz
import Derived.Test.YtmogncpkdkdodaaHfEq
import Derived.Test.YtmogncpkdkdodaaIntTo
import Derived.Test.YtmogncpkdkdodaaIntEq
import Derived.Test.YtmogncpkdkdodaaRtTo
import Derived.Test.YtmogncpkdkdodaaRtEq
import Derived.Test.YtmogncpkdkdodaaLaw
import Derived.Test.YtmogncpkdkdodaaRows
namespace Go.Proofs.Ytmogncpkdkdodaa.fnExactHasRational
open Go.ChangeShapes Go.WideShapes Go.ChangeAt Go.RowKit Go.Lib
open Go.ChangeMaps (open_string shut_string)
set_option linter.unusedVariables false in
set_option maxRecDepth 100000 in
set_option maxHeartbeats 400000 in
theorem walk_long0 (za : Rgn) (vza : Value) (zb : Hf) (vzb : Value) (w : World) (hza : Rg w vza za) (hzb : Hv w vzb zb)  (hl : ¬ (((za.2.length + totN za.2) : Nat) : Int) ≤ 1048576) :
    Calls Try.prog 4 #[vza, vzb] w fun e w' => e = .returned (.bool true) ∧ Below w.heap.size w w' := by
  have Hza := Lib.hid hza
  obtain ⟨Uza, rfl, _⟩ := hza
  have Hzb := Lib.hid hzb
  obtain ⟨Uzb, rfl, _⟩ := hzb
  have Qza := Lib.hid (show szHs za.2 1048576 = -1 from szHs_small (by omega))
  have B0 := Lib.hid (Below.refl w.heap.size w)
  have hb1 := below1 w (.cells #[.int .i64 za.1, Uza] 51)
  have B1 := Lib.hid (B0.out.trans (hb1.mono B0.out.size))
  have S1 := Lib.hid (alloc_lt w (.cells #[.int .i64 za.1, Uza] 51))
  have Pza_1 := Lib.hid (Bk.new w #[.int .i64 za.1, Uza] 51)
  clear hb1
  have hb2 := below1 (w.alloc (.cells #[.int .i64 za.1, Uza] 51)) (.cells #[Uzb, .int .i64 zb.2] 53)
  have B2 := Lib.hid (B1.out.trans (hb2.mono B1.out.size))
  have S2 := Lib.hid (alloc_lt (w.alloc (.cells #[.int .i64 za.1, Uza] 51)) (.cells #[Uzb, .int .i64 zb.2] 53))
  have Pza_2 := Lib.hid (Pza_1.out.below hb2)
  have Pzb_2 := Lib.hid (Bk.newAt (w := (w.alloc (.cells #[.int .i64 za.1, Uza] 51))) (b := (w.heap.size + 1)) (by simp) #[Uzb, .int .i64 zb.2] 53)
  clear hb2 Pza_1
  go_enter Try.func4, Try.ntmps4
  obtain ⟨⟨lPza0, lPza1⟩, -⟩ := Pza_2.out.two
  go_wp2_with fail
  refine (sz_region za _ 1048576 _ (Hza.out.below B2.out) (by omega) (by omega)).mono ?_
  rintro e w3 ⟨rfl, hb3⟩
  rw [Qza.out]
  have B3 := Lib.hid (B2.out.trans (hb3.mono B2.out.size))
  have S3 := Lib.hid hb3.size
  have Pza_3 := Lib.hid (Pza_2.out.below hb3)
  have Pzb_3 := Lib.hid (Pzb_2.out.below hb3)
  clear hb3 Pza_2 Pzb_2
  clear lPza0 lPza1
  go_wp2_with fail
  go_ret
  exact ⟨rfl, B3.out⟩

set_option linter.unusedVariables false in
set_option maxRecDepth 100000 in
set_option maxHeartbeats 400000 in
theorem walk_long1 (za : Rgn) (vza : Value) (zb : Hf) (vzb : Value) (w : World) (hza : Rg w vza za) (hzb : Hv w vzb zb) (lza : (((za.2.length + totN za.2) : Nat) : Int) ≤ 1048576) (hl : ¬ (((zb.1.length) : Nat) : Int) ≤ 1048576 - (za.2.length + totN za.2)) :
    Calls Try.prog 4 #[vza, vzb] w fun e w' => e = .returned (.bool true) ∧ Below w.heap.size w w' := by
  have Hza := Lib.hid hza
  obtain ⟨Uza, rfl, _⟩ := hza
  have Hzb := Lib.hid hzb
  obtain ⟨Uzb, rfl, _⟩ := hzb
  obtain ⟨Lza, hLza⟩ : ∃ q : Int, 1048576 - za.2.length - totN za.2 = q := ⟨_, rfl⟩
  have g1za : 0 ≤ Lza := by omega
  have g2za : Lza ≤ 1048576 := by omega
  have Qza := Lib.hid (show szHs za.2 1048576 = Lza by rw [szHs_fits (by omega), hLza])
  have Qzb := Lib.hid (show szI Lza zb.1.length = -1 from szI_small (by omega))
  clear hLza
  have B0 := Lib.hid (Below.refl w.heap.size w)
  have hb1 := below1 w (.cells #[.int .i64 za.1, Uza] 51)
  have B1 := Lib.hid (B0.out.trans (hb1.mono B0.out.size))
  have S1 := Lib.hid (alloc_lt w (.cells #[.int .i64 za.1, Uza] 51))
  have Pza_1 := Lib.hid (Bk.new w #[.int .i64 za.1, Uza] 51)
  clear hb1
  have hb2 := below1 (w.alloc (.cells #[.int .i64 za.1, Uza] 51)) (.cells #[Uzb, .int .i64 zb.2] 53)
  have B2 := Lib.hid (B1.out.trans (hb2.mono B1.out.size))
  have S2 := Lib.hid (alloc_lt (w.alloc (.cells #[.int .i64 za.1, Uza] 51)) (.cells #[Uzb, .int .i64 zb.2] 53))
  have Pza_2 := Lib.hid (Pza_1.out.below hb2)
  have Pzb_2 := Lib.hid (Bk.newAt (w := (w.alloc (.cells #[.int .i64 za.1, Uza] 51))) (b := (w.heap.size + 1)) (by simp) #[Uzb, .int .i64 zb.2] 53)
  clear hb2 Pza_1
  go_enter Try.func4, Try.ntmps4
  obtain ⟨⟨lPza0, lPza1⟩, -⟩ := Pza_2.out.two
  go_wp2_with fail
  refine (sz_region za _ 1048576 _ (Hza.out.below B2.out) (by omega) (by omega)).mono ?_
  rintro e w3 ⟨rfl, hb3⟩
  rw [Qza.out]
  have B3 := Lib.hid (B2.out.trans (hb3.mono B2.out.size))
  have S3 := Lib.hid hb3.size
  have Pza_3 := Lib.hid (Pza_2.out.below hb3)
  have Pzb_3 := Lib.hid (Pzb_2.out.below hb3)
  clear hb3 Pza_2 Pzb_2
  clear lPza0 lPza1
  obtain ⟨⟨lPzb0, lPzb1⟩, -⟩ := Pzb_3.out.two
  go_wp2_with fail
  refine (sz_rat zb _ Lza _ (Hzb.out.below B3.out) (by omega) (by omega)).mono ?_
  rintro e w4 ⟨rfl, hb4⟩
  rw [Qzb.out]
  have B4 := Lib.hid (B3.out.trans (hb4.mono B3.out.size))
  have S4 := Lib.hid hb4.size
  have Pza_4 := Lib.hid (Pza_3.out.below hb4)
  have Pzb_4 := Lib.hid (Pzb_3.out.below hb4)
  clear hb4 Pza_3 Pzb_3
  clear lPzb0 lPzb1
  go_wp2_with fail
  go_ret
  exact ⟨rfl, B4.out⟩

set_option linter.unusedVariables false in
set_option maxRecDepth 100000 in
set_option maxHeartbeats 3200000 in
theorem walk_short (za : Rgn) (vza : Value) (zb : Hf) (vzb : Value) (w : World) (hza : Rg w vza za) (hzb : Hv w vzb zb)  (lza : (((za.2.length + totN za.2) : Nat) : Int) ≤ 1048576) (lzb : (((zb.1.length) : Nat) : Int) ≤ 1048576 - (za.2.length + totN za.2))  :
    Calls Try.prog 4 #[vza, vzb] w fun e w' => e = .returned (.bool true) ∧ Below w.heap.size w w' := by
  have HS := Lib.hid (fun (xza : Value) (xzb : Value) (w : World) (yza : Rg w xza za) (yzb : Hv w xzb zb)  => s_hasq za zb xza xzb w yza yzb)
  have HI := Lib.hid (fun (xza : Value) (xzb : Value) (w : World) (yza : Rg w xza za) (yzb : Hv w xzb zb)  => i_hasq za zb xza xzb w yza yzb)
  generalize hasQ za.1 za.2 zb = R at HS HI
  have Hza := Lib.hid hza
  obtain ⟨Uza, rfl, _⟩ := hza
  have Hzb := Lib.hid hzb
  obtain ⟨Uzb, rfl, _⟩ := hzb
  obtain ⟨Lza, hLza⟩ : ∃ q : Int, 1048576 - za.2.length - totN za.2 = q := ⟨_, rfl⟩
  have g1za : 0 ≤ Lza := by omega
  have g2za : Lza ≤ 1048576 := by omega
  have Qza := Lib.hid (show szHs za.2 1048576 = Lza by rw [szHs_fits (by omega), hLza])
  obtain ⟨Lzb, hLzb⟩ : ∃ q : Int, Lza - zb.1.length = q := ⟨_, rfl⟩
  have g1zb : 0 ≤ Lzb := by omega
  have g2zb : Lzb ≤ 1048576 := by omega
  have Qzb := Lib.hid (show szI Lza zb.1.length = Lzb by rw [szI_fits (by omega), hLzb])
  clear hLza
  clear hLzb
  have eza : za.2.length ≤ 1048576 := by omega
  have fza : ∀ (i : Nat) h, za.2[i]? = some h → h.1.length ≤ 1048576 := fun i h hz => by have h1 := lt_of_get hz; have h2 := half_le_tot h1; rw [List.getElem?_eq_getElem h1] at hz; obtain rfl := Option.some.inj hz; omega
  have Tza := Lib.hid (totH_eq za.2)
  have Fza := Lib.hid fza
  clear fza
  have ezb : zb.1.length ≤ 1048576 := by omega
  have B0 := Lib.hid (Below.refl w.heap.size w)
  have hb1 := below1 w (.cells #[.int .i64 za.1, Uza] 51)
  have B1 := Lib.hid (B0.out.trans (hb1.mono B0.out.size))
  have S1 := Lib.hid (alloc_lt w (.cells #[.int .i64 za.1, Uza] 51))
  have Pza_1 := Lib.hid (Bk.new w #[.int .i64 za.1, Uza] 51)
  clear hb1
  have hb2 := below1 (w.alloc (.cells #[.int .i64 za.1, Uza] 51)) (.cells #[Uzb, .int .i64 zb.2] 53)
  have B2 := Lib.hid (B1.out.trans (hb2.mono B1.out.size))
  have S2 := Lib.hid (alloc_lt (w.alloc (.cells #[.int .i64 za.1, Uza] 51)) (.cells #[Uzb, .int .i64 zb.2] 53))
  have Pza_2 := Lib.hid (Pza_1.out.below hb2)
  have Pzb_2 := Lib.hid (Bk.newAt (w := (w.alloc (.cells #[.int .i64 za.1, Uza] 51))) (b := (w.heap.size + 1)) (by simp) #[Uzb, .int .i64 zb.2] 53)
  clear hb2 Pza_1
  go_enter Try.func4, Try.ntmps4
  obtain ⟨⟨lPza0, lPza1⟩, -⟩ := Pza_2.out.two
  go_wp2_with fail
  refine (sz_region za _ 1048576 _ (Hza.out.below B2.out) (by omega) (by omega)).mono ?_
  rintro e w3 ⟨rfl, hb3⟩
  rw [Qza.out]
  have B3 := Lib.hid (B2.out.trans (hb3.mono B2.out.size))
  have S3 := Lib.hid hb3.size
  have Pza_3 := Lib.hid (Pza_2.out.below hb3)
  have Pzb_3 := Lib.hid (Pzb_2.out.below hb3)
  clear hb3 Pza_2 Pzb_2
  clear lPza0 lPza1
  obtain ⟨⟨lPzb0, lPzb1⟩, -⟩ := Pzb_3.out.two
  go_wp2_with fail
  refine (sz_rat zb _ Lza _ (Hzb.out.below B3.out) (by omega) (by omega)).mono ?_
  rintro e w4 ⟨rfl, hb4⟩
  rw [Qzb.out]
  have B4 := Lib.hid (B3.out.trans (hb4.mono B3.out.size))
  have S4 := Lib.hid hb4.size
  have Pza_4 := Lib.hid (Pza_3.out.below hb4)
  have Pzb_4 := Lib.hid (Pzb_3.out.below hb4)
  clear hb4 Pza_3 Pzb_3
  clear lPzb0 lPzb1
  have Dza := Lib.hid Pza_4.out.two.1
  have Lza := Lib.hid Pza_4.out.lt
  obtain ⟨lza0, lza1⟩ := Dza.out
  have Dzb := Lib.hid Pzb_4.out.two.1
  have Lzb := Lib.hid Pzb_4.out.lt
  obtain ⟨lzb0, lzb1⟩ := Dzb.out
  go_wp2_with fail
  go_region_held3 (fun w' => w'.cell? ⟨w.heap.size, 0, none⟩ = some (.int .i64 za.1) ∧ w'.cell? ⟨w.heap.size, 1, none⟩ = some (Uza) ∧ w'.cell? ⟨(w.heap.size + 1), 0, none⟩ = some (Uzb) ∧ w'.cell? ⟨(w.heap.size + 1), 1, none⟩ = some (.int .i64 zb.2) ∧ Below w4.heap.size w4 w')
    (first | with_reducible exact keepF4 lza0 lza1 lzb0 lzb1 (Below.refl _ _) | (go_split_ands; with_reducible exact keepE4 Lza.out Lza.out Lzb.out Lzb.out (by assumption) (by assumption) (by assumption) (by assumption) (by assumption) (by assumption)) | go_keep)
    (first
      | (go_at_call 32; (with_reducible refine (to_region za _ _ (Hza.out.below (B4.out.drew)) eza Fza.out).mono ?_); rintro e w1 ⟨⟨_, rfl, x1, rfl, ho1⟩, hb1⟩)
      | (go_at_call 33; (with_reducible refine (to_rat zb _ _ (Hzb.out.below ((B4.out.drew).trans (hb1.mono (B4.out.drew).size))) ezb).mono ?_); rintro e w2 ⟨⟨_, rfl, x2, rfl, ho2⟩, hb2⟩)
      | (go_at_call 31; refine (HS.out _ _ _ ⟨_, rfl, (ho1.below hb2).hs⟩ ⟨_, rfl, ho2.sl⟩).mono ?_; rintro e w3 ⟨rfl, hb3⟩))
  rename_i hH
  obtain ⟨w5, hb5⟩ : ∃ q, Below w4.heap.size w4 q ∧ q = w3 := ⟨w3, hH.2.2.2.2, rfl⟩
  obtain ⟨hb5, rfl⟩ := hb5
  clear hH lza0 lza1 lzb0 lzb1 Dza Lza Dzb Lzb hb1 hb2 hb3 ho1 ho2
  have B5 := Lib.hid (B4.out.trans (hb5.mono B4.out.size))
  have S5 := Lib.hid hb5.size
  have Pza_5 := Lib.hid (Pza_4.out.below hb5)
  have Pzb_5 := Lib.hid (Pzb_4.out.below hb5)
  clear hb5 Pza_4 Pzb_4
  obtain ⟨⟨lPza0, lPza1⟩, -⟩ := Pza_5.out.two
  go_wp2_with fail
  refine (to_region za _ _ (Hza.out.below B5.out) eza Fza.out).mono ?_
  rintro e w6 ⟨⟨_, rfl, x, rfl, ho⟩, hb6⟩
  obtain ⟨xaxza, xcxza, rfl, _⟩ := ho.hs.shape
  clear lPza0 lPza1
  have B6 := Lib.hid (B5.out.trans (hb6.mono B5.out.size))
  have S6 := Lib.hid hb6.size
  have Pza_6 := Lib.hid (Pza_5.out.below hb6)
  have Pzb_6 := Lib.hid (Pzb_5.out.below hb6)
  have xza_6 := Lib.hid ho
  clear hb6 Pza_5 Pzb_5 ho
  have hb7 := below1 w6 (.cells #[.int .i64 za.1, .slice xaxza za.2.length xcxza] 26)
  have B7 := Lib.hid (B6.out.trans (hb7.mono B6.out.size))
  have S7 := Lib.hid (alloc_lt w6 (.cells #[.int .i64 za.1, .slice xaxza za.2.length xcxza] 26))
  have Pza_7 := Lib.hid (Pza_6.out.below hb7)
  have Pzb_7 := Lib.hid (Pzb_6.out.below hb7)
  have xza_7 := Lib.hid (xza_6.out.below hb7)
  have Bxza_7 := Lib.hid (Bk.new w6 #[.int .i64 za.1, .slice xaxza za.2.length xcxza] 26)
  clear hb7 Pza_6 Pzb_6 xza_6
  obtain ⟨⟨lPzb0, lPzb1⟩, -⟩ := Pzb_7.out.two
  go_wp2_with fail
  refine (to_rat zb _ _ (Hzb.out.below B7.out) ezb).mono ?_
  rintro e w8 ⟨⟨_, rfl, x, rfl, ho⟩, hb8⟩
  obtain ⟨xaxzb, xcxzb, rfl, _⟩ := ho.shape1
  clear lPzb0 lPzb1
  have B8 := Lib.hid (B7.out.trans (hb8.mono B7.out.size))
  have S8 := Lib.hid hb8.size
  have Pza_8 := Lib.hid (Pza_7.out.below hb8)
  have Pzb_8 := Lib.hid (Pzb_7.out.below hb8)
  have xza_8 := Lib.hid (xza_7.out.below hb8)
  have Bxza_8 := Lib.hid (Bxza_7.out.below hb8)
  have xzb_8 := Lib.hid ho
  clear hb8 Pza_7 Pzb_7 xza_7 Bxza_7 ho
  have hb9 := below1 w8 (.cells #[.slice xaxzb (intVals zb.1).length xcxzb, .int .i64 zb.2] 58)
  have B9 := Lib.hid (B8.out.trans (hb9.mono B8.out.size))
  have S9 := Lib.hid (alloc_lt w8 (.cells #[.slice xaxzb (intVals zb.1).length xcxzb, .int .i64 zb.2] 58))
  have Pza_9 := Lib.hid (Pza_8.out.below hb9)
  have Pzb_9 := Lib.hid (Pzb_8.out.below hb9)
  have xza_9 := Lib.hid (xza_8.out.below hb9)
  have Bxza_9 := Lib.hid (Bxza_8.out.below hb9)
  have xzb_9 := Lib.hid (xzb_8.out.below hb9)
  have Bxzb_9 := Lib.hid (Bk.new w8 #[.slice xaxzb (intVals zb.1).length xcxzb, .int .i64 zb.2] 58)
  clear hb9 Pza_8 Pzb_8 xza_8 Bxza_8 xzb_8
  obtain ⟨⟨lBxza0, lBxza1⟩, -⟩ := Bxza_9.out.two
  obtain ⟨⟨lBxzb0, lBxzb1⟩, -⟩ := Bxzb_9.out.two
  go_wp2_with fail
  refine (HI.out _ _ _ ⟨_, rfl, xza_9.out.hs⟩ ⟨_, rfl, xzb_9.out.sl⟩ ).mono ?_
  rintro e w10 ⟨rfl, hb10⟩
  have B10 := Lib.hid (B9.out.trans (hb10.mono B9.out.size))
  have S10 := Lib.hid hb10.size
  have Pza_10 := Lib.hid (Pza_9.out.below hb10)
  have Pzb_10 := Lib.hid (Pzb_9.out.below hb10)
  have xza_10 := Lib.hid (xza_9.out.below hb10)
  have Bxza_10 := Lib.hid (Bxza_9.out.below hb10)
  have xzb_10 := Lib.hid (xzb_9.out.below hb10)
  have Bxzb_10 := Lib.hid (Bxzb_9.out.below hb10)
  clear hb10 Pza_9 Pzb_9 xza_9 Bxza_9 xzb_9 Bxzb_9
  clear lBxza0 lBxza1 lBxzb0 lBxzb1
  have DX := Lib.hid Bxza_10.out.two.1
  have DP := Lib.hid Pza_10.out.two.1
  have LX := Lib.hid Bxza_10.out.lt
  have LP := Lib.hid Pza_10.out.lt
  have RX := Lib.hid (show Rg w10 (.agg #[.int .i64 za.1, .slice xaxza za.2.length xcxza]) za from ⟨_, rfl, xza_10.out.hs⟩)
  obtain ⟨lx0, lx1⟩ := DX.out
  obtain ⟨lp0, lp1⟩ := DP.out
  go_wp2_with fail
  go_region_held3 (fun w' => w'.cell? ⟨w6.heap.size, 0, none⟩ = some (.int .i64 za.1) ∧ w'.cell? ⟨w6.heap.size, 1, none⟩ = some (.slice xaxza za.2.length xcxza) ∧ w'.cell? ⟨w.heap.size, 0, none⟩ = some (.int .i64 za.1) ∧ w'.cell? ⟨w.heap.size, 1, none⟩ = some (Uza) ∧ Below w10.heap.size w10 w')
    (first | with_reducible exact keepF4 lx0 lx1 lp0 lp1 (Below.refl _ _) | (go_split_ands; with_reducible exact keepE4 LX.out LX.out LP.out LP.out (by assumption) (by assumption) (by assumption) (by assumption) (by assumption) (by assumption)) | go_keep)
    (first | (go_at_call 32; refine (to_region za _ _ (Hza.out.below (B10.out.drew)) eza Fza.out).mono ?_; rintro e w1 ⟨⟨_, rfl, x, rfl, ho⟩, hb1⟩) | (go_at_call 35; refine (eq_region za _ _ _ (RX.out.below (drew_below hb1)) ⟨_, rfl, ho.hs⟩).mono ?_; rintro e w2 ⟨rfl, hb2⟩))
  rename_i hH
  obtain ⟨w11, hb11⟩ : ∃ q, Below w10.heap.size w10 q ∧ q = w2 := ⟨w2, hH.2.2.2.2, rfl⟩
  obtain ⟨hb11, rfl⟩ := hb11
  clear hH DX DP LX LP RX lx0 lx1 lp0 lp1 hb1 hb2 ho
  have B11 := Lib.hid (B10.out.trans (hb11.mono B10.out.size))
  have S11 := Lib.hid hb11.size
  have Pza_11 := Lib.hid (Pza_10.out.below hb11)
  have Pzb_11 := Lib.hid (Pzb_10.out.below hb11)
  have xza_11 := Lib.hid (xza_10.out.below hb11)
  have Bxza_11 := Lib.hid (Bxza_10.out.below hb11)
  have xzb_11 := Lib.hid (xzb_10.out.below hb11)
  have Bxzb_11 := Lib.hid (Bxzb_10.out.below hb11)
  clear hb11 Pza_10 Pzb_10 xza_10 Bxza_10 xzb_10 Bxzb_10
  have DX := Lib.hid Bxzb_11.out.two.1
  have DP := Lib.hid Pzb_11.out.two.1
  have LX := Lib.hid Bxzb_11.out.lt
  have LP := Lib.hid Pzb_11.out.lt
  have RX := Lib.hid (show Hv w11 (.agg #[.slice xaxzb (intVals zb.1).length xcxzb, .int .i64 zb.2]) zb from ⟨_, rfl, xzb_11.out.sl⟩)
  obtain ⟨lx0, lx1⟩ := DX.out
  obtain ⟨lp0, lp1⟩ := DP.out
  go_wp2_with fail
  go_region_held3 (fun w' => w'.cell? ⟨w8.heap.size, 0, none⟩ = some (.slice xaxzb (intVals zb.1).length xcxzb) ∧ w'.cell? ⟨w8.heap.size, 1, none⟩ = some (.int .i64 zb.2) ∧ w'.cell? ⟨(w.heap.size + 1), 0, none⟩ = some (Uzb) ∧ w'.cell? ⟨(w.heap.size + 1), 1, none⟩ = some (.int .i64 zb.2) ∧ Below w11.heap.size w11 w')
    (first | with_reducible exact keepF4 lx0 lx1 lp0 lp1 (Below.refl _ _) | (go_split_ands; with_reducible exact keepE4 LX.out LX.out LP.out LP.out (by assumption) (by assumption) (by assumption) (by assumption) (by assumption) (by assumption)) | go_keep)
    (first | (go_at_call 33; refine (to_rat zb _ _ (Hzb.out.below (B11.out.drew)) ezb).mono ?_; rintro e w1 ⟨⟨_, rfl, x, rfl, ho⟩, hb1⟩) | (go_at_call 36; refine (eq_rat zb _ _ _ (RX.out.below (drew_below hb1)) ⟨_, rfl, ho.sl⟩).mono ?_; rintro e w2 ⟨rfl, hb2⟩))
  rename_i hH
  obtain ⟨w12, hb12⟩ : ∃ q, Below w11.heap.size w11 q ∧ q = w2 := ⟨w2, hH.2.2.2.2, rfl⟩
  obtain ⟨hb12, rfl⟩ := hb12
  clear hH DX DP LX LP RX lx0 lx1 lp0 lp1 hb1 hb2 ho
  have B12 := Lib.hid (B11.out.trans (hb12.mono B11.out.size))
  have S12 := Lib.hid hb12.size
  have Pza_12 := Lib.hid (Pza_11.out.below hb12)
  have Pzb_12 := Lib.hid (Pzb_11.out.below hb12)
  have xza_12 := Lib.hid (xza_11.out.below hb12)
  have Bxza_12 := Lib.hid (Bxza_11.out.below hb12)
  have xzb_12 := Lib.hid (xzb_11.out.below hb12)
  have Bxzb_12 := Lib.hid (Bxzb_11.out.below hb12)
  clear hb12 Pza_11 Pzb_11 xza_11 Bxza_11 xzb_11 Bxzb_11
  go_wp2_with fail
  go_ret
  exact ⟨rfl, B12.out⟩

theorem walk (za : Rgn) (vza : Value) (zb : Hf) (vzb : Value) (w : World) (hza : Rg w vza za) (hzb : Hv w vzb zb)    :
    Calls Try.prog 4 #[vza, vzb] w fun e w' => e = .returned (.bool true) ∧ Below w.heap.size w w' := by
  by_cases lza : (((za.2.length + totN za.2) : Nat) : Int) ≤ 1048576
  · by_cases lzb : (((zb.1.length) : Nat) : Int) ≤ 1048576 - (za.2.length + totN za.2)
    · exact walk_short za vza zb vzb w hza hzb  lza lzb 
    · exact walk_long1 za vza zb vzb w hza hzb lza lzb
  · exact walk_long0 za vza zb vzb w hza hzb  lza

theorem own : ownKnob Try.prog.godebug = none := by kernel_rfl
theorem laidOut : laidOutB Try.prog = true := by kernel_rfl


set_option maxRecDepth 100000 in
set_option linter.unusedVariables false in
theorem contract (H : Type) (enc : TypeId × Value → H) (W : World) (base : Nat) (args : Array Value) (ds gs : List (DataW H)) (before : List MemPlace)
    (hval : ∀ (j : Nat) t v, Try.f4.params[j]? = some t → args[j]? = some v → Value.okWide Try.prog W .any base t v)
    (hW : DataW.Whole enc Try.prog Try.f4.params.toList Rows.fnExactHasRationalSpec.vars false W args.toList ds gs before) :
    Calls Try.prog 4 args W fun e W' => ∃ v, e = .returned v ∧ Rows.fnExactHasRationalSpec.post enc Try.prog Try.f4 false true false false W args v W' := by
  have hW' := hW
  obtain ⟨p, q, hA0, hV, rfl, hfz, hnd⟩ := hW
  have hA : DataW.TrodAll enc Try.prog W 0 (fun _ => true) true Try.f4.params.toList args.toList ds p := hA0
  rw [Try.params4] at hA hval
  obtain ⟨v0, vs0, d0, ds0, p0, q0, hargs, rfl, rfl, h0, r0⟩ := trodAll_cons hA
  obtain ⟨v1, vs1, d1, ds1, p1, q1, rfl, rfl, rfl, h1, r1⟩ := trodAll_cons r0
  obtain ⟨rfl, rfl, rfl⟩ := trodAll_nil r1
  obtain rfl : args = #[v0, v1] := by cases args; simp_all
  obtain ⟨za, wza⟩ : ∃ z : Rgn, True ∧ Rg W v0 z ∧ (Lit.int .i64 z.1).wf = true ∧ HWf z.2 := rg_came Try.underlying51 (by kernel_rfl) (by kernel_rfl) Try.underlying3 Try.underlying49 Try.underlying126 (by kernel_rfl) rfl rfl (by kernel_rfl) (by kernel_rfl) Try.underlying30 Try.underlying3 (by kernel_rfl) Try.underlying3 (hval 0 51 v0 rfl rfl) h0
  obtain ⟨zb, wzb⟩ : ∃ z : Hf, True ∧ Hv W v1 z ∧ (Lit.int .i64 z.2).wf = true ∧ ∀ y ∈ z.1, (Lit.int .i64 y).wf = true := rat_came Try.underlying53 (by kernel_rfl) (by kernel_rfl) Try.underlying30 Try.underlying3 (by kernel_rfl) Try.underlying3 (hval 1 53 v1 rfl rfl) h1
  refine (walk za _ zb _ W wza.2.1 wzb.2.1   ).mono fun e W' ⟨he, hb⟩ => ?_
  subst he
  exact ⟨_, rfl, law_post laidOut (by kernel_rfl) rfl Try.underlying4 rfl hW' (fun ds' h => by match ds', h with | [d0, d1], _ => rfl) hb⟩


set_option maxRecDepth 100000 in
theorem lifted (os : Os) (started : os.Started) (H : Type) (enc : TypeId × Value → H) :
    ReturnsInHanded {} Try.checked os 4 .any (Rows.fnExactHasRationalSpec.pre6 enc Try.prog Try.f4 Rows.fnExactHasRationalRow.domain false) (Rows.fnExactHasRationalSpec.post enc Try.prog Try.f4 false true false false) := by
  refine returnsInHanded_of_change (C := Try.checked) own started (by kernel_rfl) Try.func4
    (ChangeSpec.witness6 (enc := enc) (C := Try.checked) false ⟨#[], #[.agg #[.int .i64 0, .slice none 0 0], .agg #[.slice none 0 0, .int .i64 0]], []⟩ 8 (by kernel_rfl) (by kernel_rfl) (by kernel_rfl) (by kernel_rfl)) ?_
  intro W base args ds gs before hval hW _ _
  exact contract H enc W base args ds gs before hval hW

theorem said : Rows.FnExactHasRationalSaid :=
  OpenClaim.holds_of_wide 4 Try.f4 rfl rfl rfl rfl rfl rfl rfl ⟨rfl, rfl, rfl, rfl, rfl⟩ rfl rfl rfl rfl rfl (by kernel_rfl) Try.func4 (by kernel_rfl)
    (of_decide_eq_true (by kernel_rfl)) (by unfold Func.isWrapper; first | (rw [if_pos (by decide +kernel)]; kernel_rfl) | (rw [if_neg (by decide +kernel)]; exact ⟨rfl, rfl⟩))
    (fun os started H enc _ => lifted os started H enc)
end Go.Proofs.Ytmogncpkdkdodaa.fnExactHasRational
