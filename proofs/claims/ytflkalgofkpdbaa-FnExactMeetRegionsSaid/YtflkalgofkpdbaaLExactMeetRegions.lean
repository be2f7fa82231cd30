/- FnExactMeetRegions holds for every input. Conditions: none. -/
import Derived.Test.YtflkalgofkpdbaaRegW
import Derived.Test.YtflkalgofkpdbaaFxM
import Derived.Test.YtflkalgofkpdbaaCutR
import Derived.Test.YtflkalgofkpdbaaHfCame
import Derived.Test.YtflkalgofkpdbaaHfSz
import Derived.Test.YtflkalgofkpdbaaHfEq
import Derived.Test.YtflkalgofkpdbaaHfMark
import Derived.Test.YtflkalgofkpdbaaIntTo
import Derived.Test.YtflkalgofkpdbaaIntEq
import Derived.Test.YtflkalgofkpdbaaIntMark
import Derived.Deep.DeepCutAuto
import Derived.Tactics2
import Derived.Test.YtflkalgofkpdbaaLaw
import Derived.Test.YtflkalgofkpdbaaRows
namespace Go.Proofs.Ytflkalgofkpdbaa.fnExactMeetRegions
open Go.ChangeShapes Go.WideShapes Go.ChangeAt Go.RowKit Go.Lib
open Go.ChangeMaps (open_string shut_string)
set_option linter.unusedVariables false in
set_option maxRecDepth 100000 in
set_option maxHeartbeats 400000 in
theorem walk_long0 (za : Rgn) (vza : Value) (zb : Rgn) (vzb : Value) (w : World) (hza : Rg w vza za) (hzb : Rg w vzb zb)  (hl : ¬ (((za.2.length + totN za.2) : Nat) : Int) ≤ 1048576) :
    Calls Try.prog 7 #[vza, vzb] w fun e w' => e = .returned (.bool true) ∧ Below w.heap.size w w' := by
  have Hza := Lib.hid hza
  obtain ⟨Uza, rfl, _⟩ := hza
  have Hzb := Lib.hid hzb
  obtain ⟨Uzb, rfl, _⟩ := hzb
  have Qza := Lib.hid (show szHs za.2 1048576 = -1 from szHs_small (by omega))
  have B0 := Lib.hid (Below.refl w.heap.size w)
  have hb1 := below1 w (.cells #[.int .i64 za.1, Uza] 33)
  have B1 := Lib.hid (B0.out.trans (hb1.mono B0.out.size))
  have S1 := Lib.hid (alloc_lt w (.cells #[.int .i64 za.1, Uza] 33))
  have Pza_1 := Lib.hid (Bk.new w #[.int .i64 za.1, Uza] 33)
  clear hb1
  have hb2 := below1 (w.alloc (.cells #[.int .i64 za.1, Uza] 33)) (.cells #[.int .i64 zb.1, Uzb] 33)
  have B2 := Lib.hid (B1.out.trans (hb2.mono B1.out.size))
  have S2 := Lib.hid (alloc_lt (w.alloc (.cells #[.int .i64 za.1, Uza] 33)) (.cells #[.int .i64 zb.1, Uzb] 33))
  have Pza_2 := Lib.hid (Pza_1.out.below hb2)
  have Pzb_2 := Lib.hid (Bk.newAt (w := (w.alloc (.cells #[.int .i64 za.1, Uza] 33))) (b := (w.heap.size + 1)) (by simp) #[.int .i64 zb.1, Uzb] 33)
  clear hb2 Pza_1
  go_enter Try.func7, Try.ntmps7
  obtain ⟨⟨lPza0, lPza1⟩, -⟩ := Pza_2.out.two
  go_wp2_with fail
  refine (sz_region za _ 1048576 _ (Hza.out.below B2.out) (by omega) (by omega)).mono ?_
  rintro e w3 ⟨rfl, hb3⟩
  rw [Qza.out]
  have B3 := Lib.hid (B2.out.trans (hb3.mono B2.out.size))
  have S3 := Lib.hid hb3.size
  have Pza_3 := Lib.hid (Pza_2.out.below hb3)
  have Pzb_3 := Lib.hid (Pzb_2.out.below hb3)
  clear hb3 Pza_2 Pzb_2
  clear lPza0 lPza1
  go_wp2_with fail
  go_ret
  exact ⟨rfl, B3.out⟩

set_option linter.unusedVariables false in
set_option maxRecDepth 100000 in
set_option maxHeartbeats 400000 in
theorem walk_long1 (za : Rgn) (vza : Value) (zb : Rgn) (vzb : Value) (w : World) (hza : Rg w vza za) (hzb : Rg w vzb zb) (lza : (((za.2.length + totN za.2) : Nat) : Int) ≤ 1048576) (hl : ¬ (((zb.2.length + totN zb.2) : Nat) : Int) ≤ 1048576 - (za.2.length + totN za.2)) :
    Calls Try.prog 7 #[vza, vzb] w fun e w' => e = .returned (.bool true) ∧ Below w.heap.size w w' := by
  have Hza := Lib.hid hza
  obtain ⟨Uza, rfl, _⟩ := hza
  have Hzb := Lib.hid hzb
  obtain ⟨Uzb, rfl, _⟩ := hzb
  obtain ⟨Lza, hLza⟩ : ∃ q : Int, 1048576 - za.2.length - totN za.2 = q := ⟨_, rfl⟩
  have g1za : 0 ≤ Lza := by omega
  have g2za : Lza ≤ 1048576 := by omega
  have Qza := Lib.hid (show szHs za.2 1048576 = Lza by rw [szHs_fits (by omega), hLza])
  have Qzb := Lib.hid (show szHs zb.2 Lza = -1 from szHs_small (by omega))
  clear hLza
  have B0 := Lib.hid (Below.refl w.heap.size w)
  have hb1 := below1 w (.cells #[.int .i64 za.1, Uza] 33)
  have B1 := Lib.hid (B0.out.trans (hb1.mono B0.out.size))
  have S1 := Lib.hid (alloc_lt w (.cells #[.int .i64 za.1, Uza] 33))
  have Pza_1 := Lib.hid (Bk.new w #[.int .i64 za.1, Uza] 33)
  clear hb1
  have hb2 := below1 (w.alloc (.cells #[.int .i64 za.1, Uza] 33)) (.cells #[.int .i64 zb.1, Uzb] 33)
  have B2 := Lib.hid (B1.out.trans (hb2.mono B1.out.size))
  have S2 := Lib.hid (alloc_lt (w.alloc (.cells #[.int .i64 za.1, Uza] 33)) (.cells #[.int .i64 zb.1, Uzb] 33))
  have Pza_2 := Lib.hid (Pza_1.out.below hb2)
  have Pzb_2 := Lib.hid (Bk.newAt (w := (w.alloc (.cells #[.int .i64 za.1, Uza] 33))) (b := (w.heap.size + 1)) (by simp) #[.int .i64 zb.1, Uzb] 33)
  clear hb2 Pza_1
  go_enter Try.func7, Try.ntmps7
  obtain ⟨⟨lPza0, lPza1⟩, -⟩ := Pza_2.out.two
  go_wp2_with fail
  refine (sz_region za _ 1048576 _ (Hza.out.below B2.out) (by omega) (by omega)).mono ?_
  rintro e w3 ⟨rfl, hb3⟩
  rw [Qza.out]
  have B3 := Lib.hid (B2.out.trans (hb3.mono B2.out.size))
  have S3 := Lib.hid hb3.size
  have Pza_3 := Lib.hid (Pza_2.out.below hb3)
  have Pzb_3 := Lib.hid (Pzb_2.out.below hb3)
  clear hb3 Pza_2 Pzb_2
  clear lPza0 lPza1
  obtain ⟨⟨lPzb0, lPzb1⟩, -⟩ := Pzb_3.out.two
  go_wp2_with fail
  refine (sz_region zb _ Lza _ (Hzb.out.below B3.out) (by omega) (by omega)).mono ?_
  rintro e w4 ⟨rfl, hb4⟩
  rw [Qzb.out]
  have B4 := Lib.hid (B3.out.trans (hb4.mono B3.out.size))
  have S4 := Lib.hid hb4.size
  have Pza_4 := Lib.hid (Pza_3.out.below hb4)
  have Pzb_4 := Lib.hid (Pzb_3.out.below hb4)
  clear hb4 Pza_3 Pzb_3
  clear lPzb0 lPzb1
  go_wp2_with fail
  go_ret
  exact ⟨rfl, B4.out⟩

set_option linter.unusedVariables false in
set_option maxRecDepth 100000 in
set_option maxHeartbeats 3200000 in
theorem walk_short (za : Rgn) (vza : Value) (zb : Rgn) (vzb : Value) (w : World) (hza : Rg w vza za) (hzb : Rg w vzb zb)  (lza : (((za.2.length + totN za.2) : Nat) : Int) ≤ 1048576) (lzb : (((zb.2.length + totN zb.2) : Nat) : Int) ≤ 1048576 - (za.2.length + totN za.2))  :
    Calls Try.prog 7 #[vza, vzb] w fun e w' => e = .returned (.bool true) ∧ Below w.heap.size w w' := by
  have HS := Lib.hid (fun (xza : Value) (xzb : Value) (w : World) (yza : Rg w xza za) (yzb : Rg w xzb zb)  => s_meet za zb xza xzb w yza yzb)
  have HI := Lib.hid (fun (xza : Value) (xzb : Value) (w : World) (yza : Rg w xza za) (yzb : Rg w xzb zb)  => i_meet za zb xza xzb w yza yzb)
  have HRL := Lib.hid (meetR_tot za.1 za.2 zb.1 zb.2)
  generalize meetR za.1 za.2 zb.1 zb.2 = R at HS HI HRL
  have Hza := Lib.hid hza
  obtain ⟨Uza, rfl, _⟩ := hza
  have Hzb := Lib.hid hzb
  obtain ⟨Uzb, rfl, _⟩ := hzb
  obtain ⟨Lza, hLza⟩ : ∃ q : Int, 1048576 - za.2.length - totN za.2 = q := ⟨_, rfl⟩
  have g1za : 0 ≤ Lza := by omega
  have g2za : Lza ≤ 1048576 := by omega
  have Qza := Lib.hid (show szHs za.2 1048576 = Lza by rw [szHs_fits (by omega), hLza])
  obtain ⟨Lzb, hLzb⟩ : ∃ q : Int, Lza - zb.2.length - totN zb.2 = q := ⟨_, rfl⟩
  have g1zb : 0 ≤ Lzb := by omega
  have g2zb : Lzb ≤ 1048576 := by omega
  have Qzb := Lib.hid (show szHs zb.2 Lza = Lzb by rw [szHs_fits (by omega), hLzb])
  clear hLza
  clear hLzb
  have eza : za.2.length ≤ 1048576 := by omega
  have fza : ∀ (i : Nat) h, za.2[i]? = some h → h.1.length ≤ 1048576 := fun i h hz => by have h1 := lt_of_get hz; have h2 := half_le_tot h1; rw [List.getElem?_eq_getElem h1] at hz; obtain rfl := Option.some.inj hz; omega
  have Tza := Lib.hid (totH_eq za.2)
  have Fza := Lib.hid fza
  clear fza
  have ezb : zb.2.length ≤ 1048576 := by omega
  have fzb : ∀ (i : Nat) h, zb.2[i]? = some h → h.1.length ≤ 1048576 := fun i h hz => by have h1 := lt_of_get hz; have h2 := half_le_tot h1; rw [List.getElem?_eq_getElem h1] at hz; obtain rfl := Option.some.inj hz; omega
  have Tzb := Lib.hid (totH_eq zb.2)
  have Fzb := Lib.hid fzb
  clear fzb
  obtain ⟨nza, hnza⟩ : ∃ q : Nat, 1 + totH za.2 = q := ⟨_, rfl⟩
  have kza : 1 ≤ nza := by omega
  have Kza := Lib.hid hnza
  have gza : nza ≤ 4194304 := by have := Tza.out; omega
  clear hnza
  obtain ⟨nzb, hnzb⟩ : ∃ q : Nat, nza + totH zb.2 = q := ⟨_, rfl⟩
  have kzb : 1 ≤ nzb := by omega
  have Kzb := Lib.hid hnzb
  have gzb : nzb ≤ 8388608 := by have := Tzb.out; omega
  clear hnzb
  have B0 := Lib.hid (Below.refl w.heap.size w)
  have hb1 := below1 w (.cells #[.int .i64 za.1, Uza] 33)
  have B1 := Lib.hid (B0.out.trans (hb1.mono B0.out.size))
  have S1 := Lib.hid (alloc_lt w (.cells #[.int .i64 za.1, Uza] 33))
  have Pza_1 := Lib.hid (Bk.new w #[.int .i64 za.1, Uza] 33)
  clear hb1
  have hb2 := below1 (w.alloc (.cells #[.int .i64 za.1, Uza] 33)) (.cells #[.int .i64 zb.1, Uzb] 33)
  have B2 := Lib.hid (B1.out.trans (hb2.mono B1.out.size))
  have S2 := Lib.hid (alloc_lt (w.alloc (.cells #[.int .i64 za.1, Uza] 33)) (.cells #[.int .i64 zb.1, Uzb] 33))
  have Pza_2 := Lib.hid (Pza_1.out.below hb2)
  have Pzb_2 := Lib.hid (Bk.newAt (w := (w.alloc (.cells #[.int .i64 za.1, Uza] 33))) (b := (w.heap.size + 1)) (by simp) #[.int .i64 zb.1, Uzb] 33)
  clear hb2 Pza_1
  go_enter Try.func7, Try.ntmps7
  obtain ⟨⟨lPza0, lPza1⟩, -⟩ := Pza_2.out.two
  go_wp2_with fail
  refine (sz_region za _ 1048576 _ (Hza.out.below B2.out) (by omega) (by omega)).mono ?_
  rintro e w3 ⟨rfl, hb3⟩
  rw [Qza.out]
  have B3 := Lib.hid (B2.out.trans (hb3.mono B2.out.size))
  have S3 := Lib.hid hb3.size
  have Pza_3 := Lib.hid (Pza_2.out.below hb3)
  have Pzb_3 := Lib.hid (Pzb_2.out.below hb3)
  clear hb3 Pza_2 Pzb_2
  clear lPza0 lPza1
  obtain ⟨⟨lPzb0, lPzb1⟩, -⟩ := Pzb_3.out.two
  go_wp2_with fail
  refine (sz_region zb _ Lza _ (Hzb.out.below B3.out) (by omega) (by omega)).mono ?_
  rintro e w4 ⟨rfl, hb4⟩
  rw [Qzb.out]
  have B4 := Lib.hid (B3.out.trans (hb4.mono B3.out.size))
  have S4 := Lib.hid hb4.size
  have Pza_4 := Lib.hid (Pza_3.out.below hb4)
  have Pzb_4 := Lib.hid (Pzb_3.out.below hb4)
  clear hb4 Pza_3 Pzb_3
  clear lPzb0 lPzb1
  have Dza := Lib.hid Pza_4.out.two.1
  have Lza := Lib.hid Pza_4.out.lt
  obtain ⟨lza0, lza1⟩ := Dza.out
  have Dzb := Lib.hid Pzb_4.out.two.1
  have Lzb := Lib.hid Pzb_4.out.lt
  obtain ⟨lzb0, lzb1⟩ := Dzb.out
  go_wp2_with fail
  go_cut [6, 7] (fun s6 s7 wx => CutR w4 R s6 s7 wx)
  case first =>
    go_region_held3 (fun w' => w'.cell? ⟨w.heap.size, 0, none⟩ = some (.int .i64 za.1) ∧ w'.cell? ⟨w.heap.size, 1, none⟩ = some (Uza) ∧ w'.cell? ⟨(w.heap.size + 1), 0, none⟩ = some (.int .i64 zb.1) ∧ w'.cell? ⟨(w.heap.size + 1), 1, none⟩ = some (Uzb) ∧ Below w4.heap.size w4 w')
      (first | with_reducible exact keepF4 lza0 lza1 lzb0 lzb1 (Below.refl _ _) | (go_split_ands; with_reducible exact keepE4 Lza.out Lza.out Lzb.out Lzb.out (by assumption) (by assumption) (by assumption) (by assumption) (by assumption) (by assumption)) | (go_split_ands; with_reducible exact keepA4 Lza.out Lza.out Lzb.out Lzb.out (by assumption) (by assumption) (by assumption) (by assumption) (by assumption)) | (go_split_ands; with_reducible exact keepD4 Lza.out Lza.out Lzb.out Lzb.out (by assumption) (by assumption) (by assumption) (by assumption) (by assumption)) | (go_split_ands; with_reducible exact keepS4 Lza.out Lza.out Lzb.out Lzb.out (by assumption) (by assumption) (by assumption) (by assumption) (by assumption) (by first | exact Nat.le_refl _ | exact (draw_below hb1).size | exact Nat.le_trans (draw_below hb1).size hb2.size)) | (go_split_ands; with_reducible exact keepR4 (Nat.le_trans (draw_below hb1).size (Nat.le_trans hb2.size hb3.size)) Lza.out Lza.out Lzb.out Lzb.out (by assumption) (by assumption) (by assumption) (by assumption) (by assumption)) | go_keep)
      (first
        | (go_at_call 16; (with_reducible refine (to_region za _ _ (Hza.out.below (by first | exact B4.out.drew | exact (B4.out.alloc B4.out.size _).drew)) eza Fza.out).mono ?_); rintro e w1 ⟨⟨_, rfl, x1, rfl, ho1⟩, hb1⟩)
        | (go_at_call 16; (with_reducible refine (to_region zb _ _ (Hzb.out.below (by first | exact (B4.out.trans ((draw_below hb1).mono B4.out.size)) | exact ((B4.out.alloc B4.out.size _).drew).trans (hb1.mono (B4.out.alloc B4.out.size _).drew.size) | exact (B4.out.trans ((draw_below hb1).mono B4.out.size)).alloc (B4.out.trans ((draw_below hb1).mono B4.out.size)).size _)) ezb Fzb.out).mono ?_); rintro e w2 ⟨⟨_, rfl, x2, rfl, ho2⟩, hb2⟩)
        | (go_at_call 28; refine (HS.out _ _ _ ⟨_, rfl, (by first | exact ho1.hs.below hb2 | exact (ho1.hs.below (below1 _ _)).below hb2 | exact (ho1.hs.below hb2).below (below1 _ _))⟩ ⟨_, rfl, (by first | exact ho2.hs | exact ho2.hs.below (below1 _ _))⟩).mono ?_; rintro e w3 ⟨⟨_, rfl, x3, rfl, ho3⟩, hb3⟩; obtain ⟨xaW, xcW, rfl, _⟩ := ho3.hs.shape; (first | (have QZ := Lib.hid ((((show Bk (w4.alloc (.cells #[.int .i64 0, .slice none 0 0] 38)).drew w4.heap.size #[.int .i64 0, .slice none 0 0] 38 from Bk.new w4 _ _).below hb1).below hb2).below hb3); obtain ⟨⟨q0, q1⟩, r0, r1⟩ := QZ.out.two) | (have QZ := Lib.hid (((Bk.new w1 #[.int .i64 0, .slice none 0 0] 38).below hb2).below hb3); obtain ⟨⟨q0, q1⟩, r0, r1⟩ := QZ.out.two) | (have QZ := Lib.hid ((Bk.new w2 #[.int .i64 0, .slice none 0 0] 38).below hb3); obtain ⟨⟨q0, q1⟩, r0, r1⟩ := QZ.out.two) | skip)))
    all_goals (rename_i hH; go_wp2_with fail; go_meet; first | exact CutR.store QZ.out ho3 hH.2.2.2.2 (by have s1 := hb1.size; have s2 := hb2.size; have s3 := hb3.size; have t1 : w4.drew.heap.size = w4.heap.size := rfl; have t2 : (w4.alloc (.cells #[.int .i64 0, .slice none 0 0] 38)).drew.heap.size = w4.heap.size + 1 := World.size_alloc _ _; have t3 : (w1.alloc (.cells #[.int .i64 0, .slice none 0 0] 38)).heap.size = w1.heap.size + 1 := World.size_alloc _ _; have t4 : (w2.alloc (.cells #[.int .i64 0, .slice none 0 0] 38)).heap.size = w2.heap.size + 1 := World.size_alloc _ _; omega) (by have s1 := hb1.size; have s2 := hb2.size; have s3 := hb3.size; have t1 : w4.drew.heap.size = w4.heap.size := rfl; have t2 : (w4.alloc (.cells #[.int .i64 0, .slice none 0 0] 38)).drew.heap.size = w4.heap.size + 1 := World.size_alloc _ _; have t3 : (w1.alloc (.cells #[.int .i64 0, .slice none 0 0] 38)).heap.size = w1.heap.size + 1 := World.size_alloc _ _; have t4 : (w2.alloc (.cells #[.int .i64 0, .slice none 0 0] 38)).heap.size = w2.heap.size + 1 := World.size_alloc _ _; omega) (Nat.le_refl _) | exact CutR.fresh ho3 hH.2.2.2.2 (by have s1 := hb1.size; have s2 := hb2.size; have s3 := hb3.size; have t1 : w4.drew.heap.size = w4.heap.size := rfl; have t2 : (w4.alloc (.cells #[.int .i64 0, .slice none 0 0] 38)).drew.heap.size = w4.heap.size + 1 := World.size_alloc _ _; have t3 : (w1.alloc (.cells #[.int .i64 0, .slice none 0 0] 38)).heap.size = w1.heap.size + 1 := World.size_alloc _ _; have t4 : (w2.alloc (.cells #[.int .i64 0, .slice none 0 0] 38)).heap.size = w2.heap.size + 1 := World.size_alloc _ _; omega) (by have s1 := hb1.size; have s2 := hb2.size; have s3 := hb3.size; have t1 : w4.drew.heap.size = w4.heap.size := rfl; have t2 : (w4.alloc (.cells #[.int .i64 0, .slice none 0 0] 38)).drew.heap.size = w4.heap.size + 1 := World.size_alloc _ _; have t3 : (w1.alloc (.cells #[.int .i64 0, .slice none 0 0] 38)).heap.size = w1.heap.size + 1 := World.size_alloc _ _; have t4 : (w2.alloc (.cells #[.int .i64 0, .slice none 0 0] 38)).heap.size = w2.heap.size + 1 := World.size_alloc _ _; omega) (Nat.le_refl _))
  obtain ⟨w5, hw5⟩ : ∃ q, q = wc := ⟨_, rfl⟩
  subst hw5
  obtain ⟨bW, xaW, xcW, rfl, rfl, hB, ho, hb5, hlt⟩ := hcut
  have SX5 := Lib.hid hB.lt
  have SY5 := Lib.hid hlt
  have BW_5 := Lib.hid hB
  clear hB hlt lza0 lza1 lzb0 lzb1 Dza Lza Dzb Lzb
  have B5 := Lib.hid (B4.out.trans (hb5.mono B4.out.size))
  have S5 := Lib.hid hb5.size
  have Pza_5 := Lib.hid (Pza_4.out.below hb5)
  have Pzb_5 := Lib.hid (Pzb_4.out.below hb5)
  have W_5 := Lib.hid ho
  clear hb5 Pza_4 Pzb_4 ho
  obtain ⟨⟨lPza0, lPza1⟩, -⟩ := Pza_5.out.two
  go_wp2_with fail
  refine (to_region za _ _ (Hza.out.below B5.out) eza Fza.out).mono ?_
  rintro e w6 ⟨⟨_, rfl, x, rfl, ho⟩, hb6⟩
  obtain ⟨xaxza, xcxza, rfl, _⟩ := ho.hs.shape
  clear lPza0 lPza1
  have B6 := Lib.hid (B5.out.trans (hb6.mono B5.out.size))
  have S6 := Lib.hid hb6.size
  have Pza_6 := Lib.hid (Pza_5.out.below hb6)
  have Pzb_6 := Lib.hid (Pzb_5.out.below hb6)
  have W_6 := Lib.hid (W_5.out.below hb6)
  have BW_6 := Lib.hid (BW_5.out.below hb6)
  have xza_6 := Lib.hid ho
  clear hb6 Pza_5 Pzb_5 W_5 BW_5 ho
  have hb7 := below1 w6 (.cells #[.int .i64 za.1, .slice xaxza za.2.length xcxza] 38)
  have B7 := Lib.hid (B6.out.trans (hb7.mono B6.out.size))
  have S7 := Lib.hid (alloc_lt w6 (.cells #[.int .i64 za.1, .slice xaxza za.2.length xcxza] 38))
  have Pza_7 := Lib.hid (Pza_6.out.below hb7)
  have Pzb_7 := Lib.hid (Pzb_6.out.below hb7)
  have W_7 := Lib.hid (W_6.out.below hb7)
  have BW_7 := Lib.hid (BW_6.out.below hb7)
  have xza_7 := Lib.hid (xza_6.out.below hb7)
  have Bxza_7 := Lib.hid (Bk.new w6 #[.int .i64 za.1, .slice xaxza za.2.length xcxza] 38)
  clear hb7 Pza_6 Pzb_6 W_6 BW_6 xza_6
  obtain ⟨⟨lPzb0, lPzb1⟩, -⟩ := Pzb_7.out.two
  go_wp2_with fail
  refine (to_region zb _ _ (Hzb.out.below B7.out) ezb Fzb.out).mono ?_
  rintro e w8 ⟨⟨_, rfl, x, rfl, ho⟩, hb8⟩
  obtain ⟨xaxzb, xcxzb, rfl, _⟩ := ho.hs.shape
  clear lPzb0 lPzb1
  have B8 := Lib.hid (B7.out.trans (hb8.mono B7.out.size))
  have S8 := Lib.hid hb8.size
  have Pza_8 := Lib.hid (Pza_7.out.below hb8)
  have Pzb_8 := Lib.hid (Pzb_7.out.below hb8)
  have W_8 := Lib.hid (W_7.out.below hb8)
  have BW_8 := Lib.hid (BW_7.out.below hb8)
  have xza_8 := Lib.hid (xza_7.out.below hb8)
  have Bxza_8 := Lib.hid (Bxza_7.out.below hb8)
  have xzb_8 := Lib.hid ho
  clear hb8 Pza_7 Pzb_7 W_7 BW_7 xza_7 Bxza_7 ho
  have hb9 := below1 w8 (.cells #[.int .i64 zb.1, .slice xaxzb zb.2.length xcxzb] 38)
  have B9 := Lib.hid (B8.out.trans (hb9.mono B8.out.size))
  have S9 := Lib.hid (alloc_lt w8 (.cells #[.int .i64 zb.1, .slice xaxzb zb.2.length xcxzb] 38))
  have Pza_9 := Lib.hid (Pza_8.out.below hb9)
  have Pzb_9 := Lib.hid (Pzb_8.out.below hb9)
  have W_9 := Lib.hid (W_8.out.below hb9)
  have BW_9 := Lib.hid (BW_8.out.below hb9)
  have xza_9 := Lib.hid (xza_8.out.below hb9)
  have Bxza_9 := Lib.hid (Bxza_8.out.below hb9)
  have xzb_9 := Lib.hid (xzb_8.out.below hb9)
  have Bxzb_9 := Lib.hid (Bk.new w8 #[.int .i64 zb.1, .slice xaxzb zb.2.length xcxzb] 38)
  clear hb9 Pza_8 Pzb_8 W_8 BW_8 xza_8 Bxza_8 xzb_8
  obtain ⟨⟨lBxza0, lBxza1⟩, -⟩ := Bxza_9.out.two
  obtain ⟨⟨lBxzb0, lBxzb1⟩, -⟩ := Bxzb_9.out.two
  go_wp2_with fail
  refine (HI.out _ _ _ ⟨_, rfl, xza_9.out.hs⟩ ⟨_, rfl, xzb_9.out.hs⟩ ).mono ?_
  rintro e w10 ⟨⟨_, rfl, x, rfl, ho⟩, hb10⟩
  obtain ⟨xaG, xcG, rfl, _⟩ := ho.hs.shape
  clear lBxza0 lBxza1 lBxzb0 lBxzb1
  have B10 := Lib.hid (B9.out.trans (hb10.mono B9.out.size))
  have S10 := Lib.hid hb10.size
  have Pza_10 := Lib.hid (Pza_9.out.below hb10)
  have Pzb_10 := Lib.hid (Pzb_9.out.below hb10)
  have W_10 := Lib.hid (W_9.out.below hb10)
  have BW_10 := Lib.hid (BW_9.out.below hb10)
  have xza_10 := Lib.hid (xza_9.out.below hb10)
  have Bxza_10 := Lib.hid (Bxza_9.out.below hb10)
  have xzb_10 := Lib.hid (xzb_9.out.below hb10)
  have Bxzb_10 := Lib.hid (Bxzb_9.out.below hb10)
  have G_10 := Lib.hid ho
  clear hb10 Pza_9 Pzb_9 W_9 BW_9 xza_9 Bxza_9 xzb_9 Bxzb_9 ho
  have hb11 := below1 w10 (.cells #[.int .i64 R.1.1, .slice xaG R.1.2.length xcG] 38)
  have B11 := Lib.hid (B10.out.trans (hb11.mono B10.out.size))
  have S11 := Lib.hid (alloc_lt w10 (.cells #[.int .i64 R.1.1, .slice xaG R.1.2.length xcG] 38))
  have Pza_11 := Lib.hid (Pza_10.out.below hb11)
  have Pzb_11 := Lib.hid (Pzb_10.out.below hb11)
  have W_11 := Lib.hid (W_10.out.below hb11)
  have BW_11 := Lib.hid (BW_10.out.below hb11)
  have xza_11 := Lib.hid (xza_10.out.below hb11)
  have Bxza_11 := Lib.hid (Bxza_10.out.below hb11)
  have xzb_11 := Lib.hid (xzb_10.out.below hb11)
  have Bxzb_11 := Lib.hid (Bxzb_10.out.below hb11)
  have G_11 := Lib.hid (G_10.out.below hb11)
  have BG_11 := Lib.hid (Bk.new w10 #[.int .i64 R.1.1, .slice xaG R.1.2.length xcG] 38)
  clear hb11 Pza_10 Pzb_10 W_10 BW_10 xza_10 Bxza_10 xzb_10 Bxzb_10 G_10
  obtain ⟨⟨lBG0, lBG1⟩, -⟩ := BG_11.out.two
  obtain ⟨⟨lBW0, lBW1⟩, -⟩ := BW_11.out.two
  go_wp2_with fail
  refine (eq_region R.1 _ _ _ ⟨_, rfl, G_11.out.hs⟩ ⟨_, rfl, W_11.out.hs⟩).mono ?_
  rintro e w12 ⟨rfl, hb12⟩
  have B12 := Lib.hid (B11.out.trans (hb12.mono B11.out.size))
  have S12 := Lib.hid hb12.size
  have Pza_12 := Lib.hid (Pza_11.out.below hb12)
  have Pzb_12 := Lib.hid (Pzb_11.out.below hb12)
  have W_12 := Lib.hid (W_11.out.below hb12)
  have BW_12 := Lib.hid (BW_11.out.below hb12)
  have xza_12 := Lib.hid (xza_11.out.below hb12)
  have Bxza_12 := Lib.hid (Bxza_11.out.below hb12)
  have xzb_12 := Lib.hid (xzb_11.out.below hb12)
  have Bxzb_12 := Lib.hid (Bxzb_11.out.below hb12)
  have G_12 := Lib.hid (G_11.out.below hb12)
  have BG_12 := Lib.hid (BG_11.out.below hb12)
  clear hb12 Pza_11 Pzb_11 W_11 BW_11 xza_11 Bxza_11 xzb_11 Bxzb_11 G_11 BG_11
  clear lBG0 lBG1 lBW0 lBW1
  have DX := Lib.hid Bxza_12.out.two.1
  have DP := Lib.hid Pza_12.out.two.1
  have LX := Lib.hid Bxza_12.out.lt
  have LP := Lib.hid Pza_12.out.lt
  have RX := Lib.hid (show Rg w12 (.agg #[.int .i64 za.1, .slice xaxza za.2.length xcxza]) za from ⟨_, rfl, xza_12.out.hs⟩)
  obtain ⟨lx0, lx1⟩ := DX.out
  obtain ⟨lp0, lp1⟩ := DP.out
  go_wp2_with fail
  go_region_held3 (fun w' => w'.cell? ⟨w6.heap.size, 0, none⟩ = some (.int .i64 za.1) ∧ w'.cell? ⟨w6.heap.size, 1, none⟩ = some (.slice xaxza za.2.length xcxza) ∧ w'.cell? ⟨w.heap.size, 0, none⟩ = some (.int .i64 za.1) ∧ w'.cell? ⟨w.heap.size, 1, none⟩ = some (Uza) ∧ Below w12.heap.size w12 w')
    (first | with_reducible exact keepF4 lx0 lx1 lp0 lp1 (Below.refl _ _) | (go_split_ands; with_reducible exact keepE4 LX.out LX.out LP.out LP.out (by assumption) (by assumption) (by assumption) (by assumption) (by assumption) (by assumption)) | go_keep)
    (first | (go_at_call 16; refine (to_region za _ _ (Hza.out.below (B12.out.drew)) eza Fza.out).mono ?_; rintro e w1 ⟨⟨_, rfl, x, rfl, ho⟩, hb1⟩) | (go_at_call 18; refine (eq_region za _ _ _ (RX.out.below (draw_below hb1)) ⟨_, rfl, ho.hs⟩).mono ?_; rintro e w2 ⟨rfl, hb2⟩))
  rename_i hH
  obtain ⟨w13, hb13⟩ : ∃ q, Below w12.heap.size w12 q ∧ q = w2 := ⟨w2, hH.2.2.2.2, rfl⟩
  obtain ⟨hb13, rfl⟩ := hb13
  clear hH DX DP LX LP RX lx0 lx1 lp0 lp1 hb1 hb2 ho
  have B13 := Lib.hid (B12.out.trans (hb13.mono B12.out.size))
  have S13 := Lib.hid hb13.size
  have Pza_13 := Lib.hid (Pza_12.out.below hb13)
  have Pzb_13 := Lib.hid (Pzb_12.out.below hb13)
  have W_13 := Lib.hid (W_12.out.below hb13)
  have BW_13 := Lib.hid (BW_12.out.below hb13)
  have xza_13 := Lib.hid (xza_12.out.below hb13)
  have Bxza_13 := Lib.hid (Bxza_12.out.below hb13)
  have xzb_13 := Lib.hid (xzb_12.out.below hb13)
  have Bxzb_13 := Lib.hid (Bxzb_12.out.below hb13)
  have G_13 := Lib.hid (G_12.out.below hb13)
  have BG_13 := Lib.hid (BG_12.out.below hb13)
  clear hb13 Pza_12 Pzb_12 W_12 BW_12 xza_12 Bxza_12 xzb_12 Bxzb_12 G_12 BG_12
  have DX := Lib.hid Bxzb_13.out.two.1
  have DP := Lib.hid Pzb_13.out.two.1
  have LX := Lib.hid Bxzb_13.out.lt
  have LP := Lib.hid Pzb_13.out.lt
  have RX := Lib.hid (show Rg w13 (.agg #[.int .i64 zb.1, .slice xaxzb zb.2.length xcxzb]) zb from ⟨_, rfl, xzb_13.out.hs⟩)
  obtain ⟨lx0, lx1⟩ := DX.out
  obtain ⟨lp0, lp1⟩ := DP.out
  go_wp2_with fail
  go_region_held3 (fun w' => w'.cell? ⟨w8.heap.size, 0, none⟩ = some (.int .i64 zb.1) ∧ w'.cell? ⟨w8.heap.size, 1, none⟩ = some (.slice xaxzb zb.2.length xcxzb) ∧ w'.cell? ⟨(w.heap.size + 1), 0, none⟩ = some (.int .i64 zb.1) ∧ w'.cell? ⟨(w.heap.size + 1), 1, none⟩ = some (Uzb) ∧ Below w13.heap.size w13 w')
    (first | with_reducible exact keepF4 lx0 lx1 lp0 lp1 (Below.refl _ _) | (go_split_ands; with_reducible exact keepE4 LX.out LX.out LP.out LP.out (by assumption) (by assumption) (by assumption) (by assumption) (by assumption) (by assumption)) | go_keep)
    (first | (go_at_call 16; refine (to_region zb _ _ (Hzb.out.below (B13.out.drew)) ezb Fzb.out).mono ?_; rintro e w1 ⟨⟨_, rfl, x, rfl, ho⟩, hb1⟩) | (go_at_call 18; refine (eq_region zb _ _ _ (RX.out.below (draw_below hb1)) ⟨_, rfl, ho.hs⟩).mono ?_; rintro e w2 ⟨rfl, hb2⟩))
  rename_i hH
  obtain ⟨w14, hb14⟩ : ∃ q, Below w13.heap.size w13 q ∧ q = w2 := ⟨w2, hH.2.2.2.2, rfl⟩
  obtain ⟨hb14, rfl⟩ := hb14
  clear hH DX DP LX LP RX lx0 lx1 lp0 lp1 hb1 hb2 ho
  have B14 := Lib.hid (B13.out.trans (hb14.mono B13.out.size))
  have S14 := Lib.hid hb14.size
  have Pza_14 := Lib.hid (Pza_13.out.below hb14)
  have Pzb_14 := Lib.hid (Pzb_13.out.below hb14)
  have W_14 := Lib.hid (W_13.out.below hb14)
  have BW_14 := Lib.hid (BW_13.out.below hb14)
  have xza_14 := Lib.hid (xza_13.out.below hb14)
  have Bxza_14 := Lib.hid (Bxza_13.out.below hb14)
  have xzb_14 := Lib.hid (xzb_13.out.below hb14)
  have Bxzb_14 := Lib.hid (Bxzb_13.out.below hb14)
  have G_14 := Lib.hid (G_13.out.below hb14)
  have BG_14 := Lib.hid (BG_13.out.below hb14)
  clear hb14 Pza_13 Pzb_13 W_13 BW_13 xza_13 Bxza_13 xzb_13 Bxzb_13 G_13 BG_13
  obtain ⟨⟨lBxza0, lBxza1⟩, -⟩ := Bxza_14.out.two
  go_wp2_with fail
  refine (mark_region za _ _ 1 nza _ _ (Nat.le_refl 1) Kza.out (by omega) ⟨_, rfl, xza_14.out⟩).mono ?_
  rintro e w15 ⟨rfl, ⟨_, hag, ho⟩, hb15⟩
  obtain rfl := agg_snd hag.symm
  have B15 := Lib.hid (B14.out.trans (hb15.below (by have := S1.out; have := S2.out; have := S3.out; have := S4.out; have := SX5.out; have := SY5.out; have := S5.out; have := S6.out; have := S7.out; have := S8.out; have := S9.out; have := S10.out; have := S11.out; have := S12.out; have := S13.out; have := S14.out; omega) (by have := S1.out; have := S2.out; have := S3.out; have := S4.out; have := SX5.out; have := SY5.out; have := S5.out; have := S6.out; have := S7.out; have := S8.out; have := S9.out; have := S10.out; have := S11.out; have := S12.out; have := S13.out; have := S14.out; omega)))
  have S15 := Lib.hid hb15.size
  have Pza_15 := Lib.hid (Pza_14.out.kept hb15 (by have := S1.out; have := S2.out; have := S3.out; have := S4.out; have := SX5.out; have := SY5.out; have := S5.out; have := S6.out; have := S7.out; have := S8.out; have := S9.out; have := S10.out; have := S11.out; have := S12.out; have := S13.out; have := S14.out; omega))
  have Pzb_15 := Lib.hid (Pzb_14.out.kept hb15 (by have := S1.out; have := S2.out; have := S3.out; have := S4.out; have := SX5.out; have := SY5.out; have := S5.out; have := S6.out; have := S7.out; have := S8.out; have := S9.out; have := S10.out; have := S11.out; have := S12.out; have := S13.out; have := S14.out; omega))
  have W_15 := Lib.hid (W_14.out.kept hb15 (by have := S1.out; have := S2.out; have := S3.out; have := S4.out; have := SX5.out; have := SY5.out; have := S5.out; have := S6.out; have := S7.out; have := S8.out; have := S9.out; have := S10.out; have := S11.out; have := S12.out; have := S13.out; have := S14.out; omega))
  have BW_15 := Lib.hid (BW_14.out.kept hb15 (by have := S1.out; have := S2.out; have := S3.out; have := S4.out; have := SX5.out; have := SY5.out; have := S5.out; have := S6.out; have := S7.out; have := S8.out; have := S9.out; have := S10.out; have := S11.out; have := S12.out; have := S13.out; have := S14.out; omega))
  have Bxza_15 := Lib.hid (Bxza_14.out.kept hb15 (by have := S1.out; have := S2.out; have := S3.out; have := S4.out; have := SX5.out; have := SY5.out; have := S5.out; have := S6.out; have := S7.out; have := S8.out; have := S9.out; have := S10.out; have := S11.out; have := S12.out; have := S13.out; have := S14.out; omega))
  have xzb_15 := Lib.hid (xzb_14.out.kept hb15 (by have := S1.out; have := S2.out; have := S3.out; have := S4.out; have := SX5.out; have := SY5.out; have := S5.out; have := S6.out; have := S7.out; have := S8.out; have := S9.out; have := S10.out; have := S11.out; have := S12.out; have := S13.out; have := S14.out; omega))
  have Bxzb_15 := Lib.hid (Bxzb_14.out.kept hb15 (by have := S1.out; have := S2.out; have := S3.out; have := S4.out; have := SX5.out; have := SY5.out; have := S5.out; have := S6.out; have := S7.out; have := S8.out; have := S9.out; have := S10.out; have := S11.out; have := S12.out; have := S13.out; have := S14.out; omega))
  have G_15 := Lib.hid (G_14.out.kept hb15 (by have := S1.out; have := S2.out; have := S3.out; have := S4.out; have := SX5.out; have := SY5.out; have := S5.out; have := S6.out; have := S7.out; have := S8.out; have := S9.out; have := S10.out; have := S11.out; have := S12.out; have := S13.out; have := S14.out; omega))
  have BG_15 := Lib.hid (BG_14.out.kept hb15 (by have := S1.out; have := S2.out; have := S3.out; have := S4.out; have := SX5.out; have := SY5.out; have := S5.out; have := S6.out; have := S7.out; have := S8.out; have := S9.out; have := S10.out; have := S11.out; have := S12.out; have := S13.out; have := S14.out; omega))
  have xza_15 := Lib.hid ho
  clear hb15 ho hag
  clear lBxza0 lBxza1
  obtain ⟨⟨lBxzb0, lBxzb1⟩, -⟩ := Bxzb_15.out.two
  go_wp2_with fail
  refine (mark_region zb _ _ nza nzb _ _ kza Kzb.out (by omega) ⟨_, rfl, xzb_15.out⟩).mono ?_
  rintro e w16 ⟨rfl, ⟨_, hag, ho⟩, hb16⟩
  obtain rfl := agg_snd hag.symm
  have B16 := Lib.hid (B15.out.trans (hb16.below (by have := S1.out; have := S2.out; have := S3.out; have := S4.out; have := SX5.out; have := SY5.out; have := S5.out; have := S6.out; have := S7.out; have := S8.out; have := S9.out; have := S10.out; have := S11.out; have := S12.out; have := S13.out; have := S14.out; have := S15.out; omega) (by have := S1.out; have := S2.out; have := S3.out; have := S4.out; have := SX5.out; have := SY5.out; have := S5.out; have := S6.out; have := S7.out; have := S8.out; have := S9.out; have := S10.out; have := S11.out; have := S12.out; have := S13.out; have := S14.out; have := S15.out; omega)))
  have S16 := Lib.hid hb16.size
  have Pza_16 := Lib.hid (Pza_15.out.kept hb16 (by have := S1.out; have := S2.out; have := S3.out; have := S4.out; have := SX5.out; have := SY5.out; have := S5.out; have := S6.out; have := S7.out; have := S8.out; have := S9.out; have := S10.out; have := S11.out; have := S12.out; have := S13.out; have := S14.out; have := S15.out; omega))
  have Pzb_16 := Lib.hid (Pzb_15.out.kept hb16 (by have := S1.out; have := S2.out; have := S3.out; have := S4.out; have := SX5.out; have := SY5.out; have := S5.out; have := S6.out; have := S7.out; have := S8.out; have := S9.out; have := S10.out; have := S11.out; have := S12.out; have := S13.out; have := S14.out; have := S15.out; omega))
  have W_16 := Lib.hid (W_15.out.kept hb16 (by have := S1.out; have := S2.out; have := S3.out; have := S4.out; have := SX5.out; have := SY5.out; have := S5.out; have := S6.out; have := S7.out; have := S8.out; have := S9.out; have := S10.out; have := S11.out; have := S12.out; have := S13.out; have := S14.out; have := S15.out; omega))
  have BW_16 := Lib.hid (BW_15.out.kept hb16 (by have := S1.out; have := S2.out; have := S3.out; have := S4.out; have := SX5.out; have := SY5.out; have := S5.out; have := S6.out; have := S7.out; have := S8.out; have := S9.out; have := S10.out; have := S11.out; have := S12.out; have := S13.out; have := S14.out; have := S15.out; omega))
  have xza_16 := Lib.hid (xza_15.out.kept hb16 (by have := S1.out; have := S2.out; have := S3.out; have := S4.out; have := SX5.out; have := SY5.out; have := S5.out; have := S6.out; have := S7.out; have := S8.out; have := S9.out; have := S10.out; have := S11.out; have := S12.out; have := S13.out; have := S14.out; have := S15.out; omega))
  have Bxza_16 := Lib.hid (Bxza_15.out.kept hb16 (by have := S1.out; have := S2.out; have := S3.out; have := S4.out; have := SX5.out; have := SY5.out; have := S5.out; have := S6.out; have := S7.out; have := S8.out; have := S9.out; have := S10.out; have := S11.out; have := S12.out; have := S13.out; have := S14.out; have := S15.out; omega))
  have Bxzb_16 := Lib.hid (Bxzb_15.out.kept hb16 (by have := S1.out; have := S2.out; have := S3.out; have := S4.out; have := SX5.out; have := SY5.out; have := S5.out; have := S6.out; have := S7.out; have := S8.out; have := S9.out; have := S10.out; have := S11.out; have := S12.out; have := S13.out; have := S14.out; have := S15.out; omega))
  have G_16 := Lib.hid (G_15.out.kept hb16 (by have := S1.out; have := S2.out; have := S3.out; have := S4.out; have := SX5.out; have := SY5.out; have := S5.out; have := S6.out; have := S7.out; have := S8.out; have := S9.out; have := S10.out; have := S11.out; have := S12.out; have := S13.out; have := S14.out; have := S15.out; omega))
  have BG_16 := Lib.hid (BG_15.out.kept hb16 (by have := S1.out; have := S2.out; have := S3.out; have := S4.out; have := SX5.out; have := SY5.out; have := S5.out; have := S6.out; have := S7.out; have := S8.out; have := S9.out; have := S10.out; have := S11.out; have := S12.out; have := S13.out; have := S14.out; have := S15.out; omega))
  have xzb_16 := Lib.hid ho
  clear hb16 ho hag
  clear lBxzb0 lBxzb1
  clear xza_16
  clear xzb_16
  clear Bxza_16
  clear Bxzb_16
  obtain ⟨⟨lBG0, lBG1⟩, -⟩ := BG_16.out.two
  obtain ⟨⟨lBW0, lBW1⟩, -⟩ := BW_16.out.two
  go_wp2_with fail
  refine (eq_region R.1 _ _ _ ⟨_, rfl, G_16.out.hs⟩ ⟨_, rfl, W_16.out.hs⟩).mono ?_
  rintro e w17 ⟨rfl, hb17⟩
  have B17 := Lib.hid (B16.out.trans (hb17.mono B16.out.size))
  have S17 := Lib.hid hb17.size
  have Pza_17 := Lib.hid (Pza_16.out.below hb17)
  have Pzb_17 := Lib.hid (Pzb_16.out.below hb17)
  have W_17 := Lib.hid (W_16.out.below hb17)
  have BW_17 := Lib.hid (BW_16.out.below hb17)
  have G_17 := Lib.hid (G_16.out.below hb17)
  have BG_17 := Lib.hid (BG_16.out.below hb17)
  clear hb17 Pza_16 Pzb_16 W_16 BW_16 G_16 BG_16
  clear lBG0 lBG1 lBW0 lBW1
  have ml := HRL.out
  obtain ⟨mm, hmm⟩ : ∃ q : Nat, 1 + totH R.1.2 = q := ⟨_, rfl⟩
  have gmm : mm ≤ 4611686018427387904 := by omega
  have KM := Lib.hid hmm
  clear ml hmm
  obtain ⟨⟨lBG0, lBG1⟩, -⟩ := BG_17.out.two
  go_wp2_with fail
  refine (mark_region R.1 _ _ 1 mm _ _ (Nat.le_refl 1) KM.out (by omega) ⟨_, rfl, G_17.out⟩).mono ?_
  rintro e w18 ⟨rfl, ⟨_, hag, ho⟩, hb18⟩
  obtain rfl := agg_snd hag.symm
  have B18 := Lib.hid (B17.out.trans (hb18.below (by have := S1.out; have := S2.out; have := S3.out; have := S4.out; have := SX5.out; have := SY5.out; have := S5.out; have := S6.out; have := S7.out; have := S8.out; have := S9.out; have := S10.out; have := S11.out; have := S12.out; have := S13.out; have := S14.out; have := S15.out; have := S16.out; have := S17.out; omega) (by have := S1.out; have := S2.out; have := S3.out; have := S4.out; have := SX5.out; have := SY5.out; have := S5.out; have := S6.out; have := S7.out; have := S8.out; have := S9.out; have := S10.out; have := S11.out; have := S12.out; have := S13.out; have := S14.out; have := S15.out; have := S16.out; have := S17.out; omega)))
  have S18 := Lib.hid hb18.size
  have Pza_18 := Lib.hid (Pza_17.out.kept hb18 (by have := S1.out; have := S2.out; have := S3.out; have := S4.out; have := SX5.out; have := SY5.out; have := S5.out; have := S6.out; have := S7.out; have := S8.out; have := S9.out; have := S10.out; have := S11.out; have := S12.out; have := S13.out; have := S14.out; have := S15.out; have := S16.out; have := S17.out; omega))
  have Pzb_18 := Lib.hid (Pzb_17.out.kept hb18 (by have := S1.out; have := S2.out; have := S3.out; have := S4.out; have := SX5.out; have := SY5.out; have := S5.out; have := S6.out; have := S7.out; have := S8.out; have := S9.out; have := S10.out; have := S11.out; have := S12.out; have := S13.out; have := S14.out; have := S15.out; have := S16.out; have := S17.out; omega))
  have W_18 := Lib.hid (W_17.out.kept hb18 (by have := S1.out; have := S2.out; have := S3.out; have := S4.out; have := SX5.out; have := SY5.out; have := S5.out; have := S6.out; have := S7.out; have := S8.out; have := S9.out; have := S10.out; have := S11.out; have := S12.out; have := S13.out; have := S14.out; have := S15.out; have := S16.out; have := S17.out; omega))
  have BW_18 := Lib.hid (BW_17.out.kept hb18 (by have := S1.out; have := S2.out; have := S3.out; have := S4.out; have := SX5.out; have := SY5.out; have := S5.out; have := S6.out; have := S7.out; have := S8.out; have := S9.out; have := S10.out; have := S11.out; have := S12.out; have := S13.out; have := S14.out; have := S15.out; have := S16.out; have := S17.out; omega))
  have BG_18 := Lib.hid (BG_17.out.kept hb18 (by have := S1.out; have := S2.out; have := S3.out; have := S4.out; have := SX5.out; have := SY5.out; have := S5.out; have := S6.out; have := S7.out; have := S8.out; have := S9.out; have := S10.out; have := S11.out; have := S12.out; have := S13.out; have := S14.out; have := S15.out; have := S16.out; have := S17.out; omega))
  have G_18 := Lib.hid ho
  clear hb18 ho hag
  clear lBG0 lBG1
  obtain ⟨⟨lBG0, lBG1⟩, -⟩ := BG_18.out.two
  go_wp2_with fail
  refine (held_region _ R.1 1 mm _ (Nat.le_refl 1) KM.out gmm ⟨_, rfl, G_18.out.hs⟩).mono ?_
  rintro e w19 ⟨rfl, hb19⟩
  have B19 := Lib.hid (B18.out.trans (hb19.mono B18.out.size))
  have S19 := Lib.hid hb19.size
  have Pza_19 := Lib.hid (Pza_18.out.below hb19)
  have Pzb_19 := Lib.hid (Pzb_18.out.below hb19)
  have W_19 := Lib.hid (W_18.out.below hb19)
  have BW_19 := Lib.hid (BW_18.out.below hb19)
  have G_19 := Lib.hid (G_18.out.below hb19)
  have BG_19 := Lib.hid (BG_18.out.below hb19)
  clear hb19 Pza_18 Pzb_18 W_18 BW_18 G_18 BG_18
  clear lBG0 lBG1
  have Dza := Lib.hid Pza_19.out.two.1
  have Lza := Lib.hid Pza_19.out.lt
  obtain ⟨lza0, lza1⟩ := Dza.out
  have Dzb := Lib.hid Pzb_19.out.two.1
  have Lzb := Lib.hid Pzb_19.out.lt
  obtain ⟨lzb0, lzb1⟩ := Dzb.out
  go_wp2_with fail
  go_cut [15, 16] (fun s6 s7 wx => CutR w19 R s6 s7 wx)
  case first =>
    go_region_held3 (fun w' => w'.cell? ⟨w.heap.size, 0, none⟩ = some (.int .i64 za.1) ∧ w'.cell? ⟨w.heap.size, 1, none⟩ = some (Uza) ∧ w'.cell? ⟨(w.heap.size + 1), 0, none⟩ = some (.int .i64 zb.1) ∧ w'.cell? ⟨(w.heap.size + 1), 1, none⟩ = some (Uzb) ∧ Below w19.heap.size w19 w')
      (first | with_reducible exact keepF4 lza0 lza1 lzb0 lzb1 (Below.refl _ _) | (go_split_ands; with_reducible exact keepE4 Lza.out Lza.out Lzb.out Lzb.out (by assumption) (by assumption) (by assumption) (by assumption) (by assumption) (by assumption)) | (go_split_ands; with_reducible exact keepA4 Lza.out Lza.out Lzb.out Lzb.out (by assumption) (by assumption) (by assumption) (by assumption) (by assumption)) | (go_split_ands; with_reducible exact keepD4 Lza.out Lza.out Lzb.out Lzb.out (by assumption) (by assumption) (by assumption) (by assumption) (by assumption)) | (go_split_ands; with_reducible exact keepS4 Lza.out Lza.out Lzb.out Lzb.out (by assumption) (by assumption) (by assumption) (by assumption) (by assumption) (by first | exact Nat.le_refl _ | exact (draw_below hb1).size | exact Nat.le_trans (draw_below hb1).size hb2.size)) | (go_split_ands; with_reducible exact keepR4 (Nat.le_trans (draw_below hb1).size (Nat.le_trans hb2.size hb3.size)) Lza.out Lza.out Lzb.out Lzb.out (by assumption) (by assumption) (by assumption) (by assumption) (by assumption)) | go_keep)
      (first
        | (go_at_call 16; (with_reducible refine (to_region za _ _ (Hza.out.below (by first | exact B19.out.drew | exact (B19.out.alloc B19.out.size _).drew)) eza Fza.out).mono ?_); rintro e w1 ⟨⟨_, rfl, x1, rfl, ho1⟩, hb1⟩)
        | (go_at_call 16; (with_reducible refine (to_region zb _ _ (Hzb.out.below (by first | exact (B19.out.trans ((draw_below hb1).mono B19.out.size)) | exact ((B19.out.alloc B19.out.size _).drew).trans (hb1.mono (B19.out.alloc B19.out.size _).drew.size) | exact (B19.out.trans ((draw_below hb1).mono B19.out.size)).alloc (B19.out.trans ((draw_below hb1).mono B19.out.size)).size _)) ezb Fzb.out).mono ?_); rintro e w2 ⟨⟨_, rfl, x2, rfl, ho2⟩, hb2⟩)
        | (go_at_call 29; refine (HI.out _ _ _ ⟨_, rfl, (by first | exact ho1.hs.below hb2 | exact (ho1.hs.below (below1 _ _)).below hb2 | exact (ho1.hs.below hb2).below (below1 _ _))⟩ ⟨_, rfl, (by first | exact ho2.hs | exact ho2.hs.below (below1 _ _))⟩).mono ?_; rintro e w3 ⟨⟨_, rfl, x3, rfl, ho3⟩, hb3⟩; obtain ⟨xaW, xcW, rfl, _⟩ := ho3.hs.shape; (first | (have QZ := Lib.hid ((((show Bk (w19.alloc (.cells #[.int .i64 0, .slice none 0 0] 38)).drew w19.heap.size #[.int .i64 0, .slice none 0 0] 38 from Bk.new w19 _ _).below hb1).below hb2).below hb3); obtain ⟨⟨q0, q1⟩, r0, r1⟩ := QZ.out.two) | (have QZ := Lib.hid (((Bk.new w1 #[.int .i64 0, .slice none 0 0] 38).below hb2).below hb3); obtain ⟨⟨q0, q1⟩, r0, r1⟩ := QZ.out.two) | (have QZ := Lib.hid ((Bk.new w2 #[.int .i64 0, .slice none 0 0] 38).below hb3); obtain ⟨⟨q0, q1⟩, r0, r1⟩ := QZ.out.two) | skip)))
    all_goals (rename_i hH; go_wp2_with fail; go_meet; first | exact CutR.store QZ.out ho3 hH.2.2.2.2 (by have s1 := hb1.size; have s2 := hb2.size; have s3 := hb3.size; have t1 : w19.drew.heap.size = w19.heap.size := rfl; have t2 : (w19.alloc (.cells #[.int .i64 0, .slice none 0 0] 38)).drew.heap.size = w19.heap.size + 1 := World.size_alloc _ _; have t3 : (w1.alloc (.cells #[.int .i64 0, .slice none 0 0] 38)).heap.size = w1.heap.size + 1 := World.size_alloc _ _; have t4 : (w2.alloc (.cells #[.int .i64 0, .slice none 0 0] 38)).heap.size = w2.heap.size + 1 := World.size_alloc _ _; omega) (by have s1 := hb1.size; have s2 := hb2.size; have s3 := hb3.size; have t1 : w19.drew.heap.size = w19.heap.size := rfl; have t2 : (w19.alloc (.cells #[.int .i64 0, .slice none 0 0] 38)).drew.heap.size = w19.heap.size + 1 := World.size_alloc _ _; have t3 : (w1.alloc (.cells #[.int .i64 0, .slice none 0 0] 38)).heap.size = w1.heap.size + 1 := World.size_alloc _ _; have t4 : (w2.alloc (.cells #[.int .i64 0, .slice none 0 0] 38)).heap.size = w2.heap.size + 1 := World.size_alloc _ _; omega) (Nat.le_refl _) | exact CutR.fresh ho3 hH.2.2.2.2 (by have s1 := hb1.size; have s2 := hb2.size; have s3 := hb3.size; have t1 : w19.drew.heap.size = w19.heap.size := rfl; have t2 : (w19.alloc (.cells #[.int .i64 0, .slice none 0 0] 38)).drew.heap.size = w19.heap.size + 1 := World.size_alloc _ _; have t3 : (w1.alloc (.cells #[.int .i64 0, .slice none 0 0] 38)).heap.size = w1.heap.size + 1 := World.size_alloc _ _; have t4 : (w2.alloc (.cells #[.int .i64 0, .slice none 0 0] 38)).heap.size = w2.heap.size + 1 := World.size_alloc _ _; omega) (by have s1 := hb1.size; have s2 := hb2.size; have s3 := hb3.size; have t1 : w19.drew.heap.size = w19.heap.size := rfl; have t2 : (w19.alloc (.cells #[.int .i64 0, .slice none 0 0] 38)).drew.heap.size = w19.heap.size + 1 := World.size_alloc _ _; have t3 : (w1.alloc (.cells #[.int .i64 0, .slice none 0 0] 38)).heap.size = w1.heap.size + 1 := World.size_alloc _ _; have t4 : (w2.alloc (.cells #[.int .i64 0, .slice none 0 0] 38)).heap.size = w2.heap.size + 1 := World.size_alloc _ _; omega) (Nat.le_refl _))
  obtain ⟨w20, hw20⟩ : ∃ q, q = wc := ⟨_, rfl⟩
  subst hw20
  obtain ⟨bZ, xaZ, xcZ, rfl, rfl, hB, ho, hb20, hlt⟩ := hcut
  have SX20 := Lib.hid hB.lt
  have SY20 := Lib.hid hlt
  have BZ_20 := Lib.hid hB
  clear hB hlt lza0 lza1 lzb0 lzb1 Dza Lza Dzb Lzb
  have B20 := Lib.hid (B19.out.trans (hb20.mono B19.out.size))
  have S20 := Lib.hid hb20.size
  have Pza_20 := Lib.hid (Pza_19.out.below hb20)
  have Pzb_20 := Lib.hid (Pzb_19.out.below hb20)
  have W_20 := Lib.hid (W_19.out.below hb20)
  have BW_20 := Lib.hid (BW_19.out.below hb20)
  have G_20 := Lib.hid (G_19.out.below hb20)
  have BG_20 := Lib.hid (BG_19.out.below hb20)
  have Z_20 := Lib.hid ho
  clear hb20 Pza_19 Pzb_19 W_19 BW_19 G_19 BG_19 ho
  obtain ⟨⟨lBZ0, lBZ1⟩, -⟩ := BZ_20.out.two
  obtain ⟨⟨lBW0, lBW1⟩, -⟩ := BW_20.out.two
  go_wp2_with fail
  refine (eq_region R.1 _ _ _ ⟨_, rfl, Z_20.out.hs⟩ ⟨_, rfl, W_20.out.hs⟩).mono ?_
  rintro e w21 ⟨rfl, hb21⟩
  have B21 := Lib.hid (B20.out.trans (hb21.mono B20.out.size))
  have S21 := Lib.hid hb21.size
  have Pza_21 := Lib.hid (Pza_20.out.below hb21)
  have Pzb_21 := Lib.hid (Pzb_20.out.below hb21)
  have W_21 := Lib.hid (W_20.out.below hb21)
  have BW_21 := Lib.hid (BW_20.out.below hb21)
  have G_21 := Lib.hid (G_20.out.below hb21)
  have BG_21 := Lib.hid (BG_20.out.below hb21)
  have Z_21 := Lib.hid (Z_20.out.below hb21)
  have BZ_21 := Lib.hid (BZ_20.out.below hb21)
  clear hb21 Pza_20 Pzb_20 W_20 BW_20 G_20 BG_20 Z_20 BZ_20
  clear lBZ0 lBZ1 lBW0 lBW1
  clear Z_21
  clear W_21
  clear BZ_21
  clear BW_21
  obtain ⟨⟨lBG0, lBG1⟩, -⟩ := BG_21.out.two
  go_wp2_with fail
  refine (held_region _ R.1 1 mm _ (Nat.le_refl 1) KM.out gmm ⟨_, rfl, G_21.out.hs⟩).mono ?_
  rintro e w22 ⟨rfl, hb22⟩
  have B22 := Lib.hid (B21.out.trans (hb22.mono B21.out.size))
  have S22 := Lib.hid hb22.size
  have Pza_22 := Lib.hid (Pza_21.out.below hb22)
  have Pzb_22 := Lib.hid (Pzb_21.out.below hb22)
  have G_22 := Lib.hid (G_21.out.below hb22)
  have BG_22 := Lib.hid (BG_21.out.below hb22)
  clear hb22 Pza_21 Pzb_21 G_21 BG_21
  clear lBG0 lBG1
  go_wp2_with fail
  go_ret
  exact ⟨rfl, B22.out⟩

theorem walk (za : Rgn) (vza : Value) (zb : Rgn) (vzb : Value) (w : World) (hza : Rg w vza za) (hzb : Rg w vzb zb)    :
    Calls Try.prog 7 #[vza, vzb] w fun e w' => e = .returned (.bool true) ∧ Below w.heap.size w w' := by
  by_cases lza : (((za.2.length + totN za.2) : Nat) : Int) ≤ 1048576
  · by_cases lzb : (((zb.2.length + totN zb.2) : Nat) : Int) ≤ 1048576 - (za.2.length + totN za.2)
    · exact walk_short za vza zb vzb w hza hzb  lza lzb 
    · exact walk_long1 za vza zb vzb w hza hzb lza lzb
  · exact walk_long0 za vza zb vzb w hza hzb  lza

theorem own : ownKnob Try.prog.godebug = none := by kernel_rfl
theorem laidOut : laidOutB Try.prog = true := by kernel_rfl


set_option maxRecDepth 100000 in
set_option linter.unusedVariables false in
theorem contract (H : Type) (enc : TypeId × Value → H) (W : World) (base : Nat) (args : Array Value) (ds gs : List (DataW H)) (before : List MemPlace)
    (hval : ∀ (j : Nat) t v, Try.f7.params[j]? = some t → args[j]? = some v → Value.okWide Try.prog W .any base t v)
    (hW : DataW.Whole enc Try.prog Try.f7.params.toList Rows.fnExactMeetRegionsSpec.vars false W args.toList ds gs before) :
    Calls Try.prog 7 args W fun e W' => ∃ v, e = .returned v ∧ Rows.fnExactMeetRegionsSpec.post enc Try.prog Try.f7 false true false false W args v W' := by
  have hW' := hW
  obtain ⟨p, q, hA0, hV, rfl, hfz, hnd⟩ := hW
  have hA : DataW.TrodAll enc Try.prog W 0 (fun _ => true) true Try.f7.params.toList args.toList ds p := hA0
  rw [Try.params7] at hA hval
  obtain ⟨v0, vs0, d0, ds0, p0, q0, hargs, rfl, rfl, h0, r0⟩ := trodAll_cons hA
  obtain ⟨v1, vs1, d1, ds1, p1, q1, rfl, rfl, rfl, h1, r1⟩ := trodAll_cons r0
  obtain ⟨rfl, rfl, rfl⟩ := trodAll_nil r1
  obtain rfl : args = #[v0, v1] := by cases args; simp_all
  obtain ⟨za, wza⟩ : ∃ z : Rgn, True ∧ Rg W v0 z ∧ (Lit.int .i64 z.1).wf = true ∧ HWf z.2 := rg_came Try.underlying33 (by kernel_rfl) (by kernel_rfl) Try.underlying3 Try.underlying31 Try.underlying24 (by kernel_rfl) rfl rfl (by kernel_rfl) (by kernel_rfl) Try.underlying22 Try.underlying3 (by kernel_rfl) Try.underlying3 (hval 0 33 v0 rfl rfl) h0
  obtain ⟨zb, wzb⟩ : ∃ z : Rgn, True ∧ Rg W v1 z ∧ (Lit.int .i64 z.1).wf = true ∧ HWf z.2 := rg_came Try.underlying33 (by kernel_rfl) (by kernel_rfl) Try.underlying3 Try.underlying31 Try.underlying24 (by kernel_rfl) rfl rfl (by kernel_rfl) (by kernel_rfl) Try.underlying22 Try.underlying3 (by kernel_rfl) Try.underlying3 (hval 1 33 v1 rfl rfl) h1
  refine (walk za _ zb _ W wza.2.1 wzb.2.1   ).mono fun e W' ⟨he, hb⟩ => ?_
  subst he
  exact ⟨_, rfl, law_post laidOut (by kernel_rfl) rfl Try.underlying4 rfl hW' (fun ds' h => by match ds', h with | [d0, d1], _ => rfl) hb⟩


set_option maxRecDepth 100000 in
theorem lifted (os : Os) (started : os.Started) (H : Type) (enc : TypeId × Value → H) :
    ReturnsInHanded {} Try.checked os 7 .any (Rows.fnExactMeetRegionsSpec.pre6 enc Try.prog Try.f7 Rows.fnExactMeetRegionsRow.domain false) (Rows.fnExactMeetRegionsSpec.post enc Try.prog Try.f7 false true false false) := by
  refine returnsInHanded_of_change (C := Try.checked) own started (by kernel_rfl) Try.func7
    (ChangeSpec.witness6 (enc := enc) (C := Try.checked) false ⟨#[], #[.agg #[.int .i64 0, .slice none 0 0], .agg #[.int .i64 0, .slice none 0 0]], []⟩ 8 (by kernel_rfl) (by kernel_rfl) (by kernel_rfl) (by kernel_rfl)) ?_
  intro W base args ds gs before hval hW _ _
  exact contract H enc W base args ds gs before hval hW

theorem said : Rows.FnExactMeetRegionsSaid :=
  OpenClaim.holds_of_wide 7 Try.f7 rfl rfl rfl rfl rfl rfl rfl ⟨rfl, rfl, rfl, rfl, rfl⟩ rfl rfl rfl rfl rfl (by kernel_rfl) Try.func7 (by kernel_rfl)
    (of_decide_eq_true (by kernel_rfl)) (by unfold Func.isWrapper; first | (rw [if_pos (by decide +kernel)]; kernel_rfl) | (rw [if_neg (by decide +kernel)]; exact ⟨rfl, rfl⟩))
    (fun os started H enc _ => lifted os started H enc)
end Go.Proofs.Ytflkalgofkpdbaa.fnExactMeetRegions
