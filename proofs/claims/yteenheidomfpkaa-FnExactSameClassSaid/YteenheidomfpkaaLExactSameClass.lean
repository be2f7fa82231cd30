/- FnExactSameClass holds for every input. Conditions: none. -/
import Derived.Test.YteenheidomfpkaaLtT
import Derived.Test.YteenheidomfpkaaMay
import Derived.Test.YteenheidomfpkaaRowTo
import Derived.Test.YteenheidomfpkaaRowEq
import Derived.Test.YteenheidomfpkaaRowMark
import Derived.Test.YteenheidomfpkaaMad
import Derived.Test.YteenheidomfpkaaLaw
import Derived.Test.YteenheidomfpkaaRows
namespace Go.Proofs.Yteenheidomfpkaa.fnExactSameClass
open Go.ChangeShapes Go.WideShapes Go.ChangeAt Go.RowKit Go.Lib
open Go.ChangeMaps (open_string shut_string)
set_option linter.unusedVariables false in
set_option maxRecDepth 100000 in
set_option maxHeartbeats 400000 in
theorem walk_long0 (za : List (List Int)) (vza : Value) (zb : List Int) (vzb : Value) (zc : List Int) (vzc : Value) (w : World) (hzb : Sl w vzb (intVals zb))  (hl : 1048576 < zb.length) :
    Calls Try.prog 10 #[vza, vzb, vzc] w fun e w' => e = .returned (.bool true) ∧ Below w.heap.size w w' := by
  have Hzb := Lib.hid hzb
  obtain ⟨Azb, Czb, rfl, Mzb, _⟩ := hzb.shape
  rw [intVals_len] at Mzb Hzb ⊢
  unfold maxLen at Mzb
  clear hzb
  go_enter Try.func10, Try.ntmps10
  go_wp2_with fail
  go_ret
  exact ⟨rfl, Below.refl _ _⟩

set_option linter.unusedVariables false in
set_option maxRecDepth 100000 in
set_option maxHeartbeats 400000 in
theorem walk_long1 (za : List (List Int)) (vza : Value) (zb : List Int) (vzb : Value) (zc : List Int) (vzc : Value) (w : World) (hzb : Sl w vzb (intVals zb)) (hzc : Sl w vzc (intVals zc)) (lzb : zb.length ≤ 1048576) (hl : 1048576 < zc.length) :
    Calls Try.prog 10 #[vza, vzb, vzc] w fun e w' => e = .returned (.bool true) ∧ Below w.heap.size w w' := by
  have Hzb := Lib.hid hzb
  obtain ⟨Azb, Czb, rfl, Mzb, _⟩ := hzb.shape
  rw [intVals_len] at Mzb Hzb ⊢
  unfold maxLen at Mzb
  clear hzb
  have Hzc := Lib.hid hzc
  obtain ⟨Azc, Czc, rfl, Mzc, _⟩ := hzc.shape
  rw [intVals_len] at Mzc Hzc ⊢
  unfold maxLen at Mzc
  clear hzc
  go_enter Try.func10, Try.ntmps10
  go_wp2_with fail
  go_ret
  exact ⟨rfl, Below.refl _ _⟩

set_option linter.unusedVariables false in
set_option maxRecDepth 100000 in
set_option maxHeartbeats 400000 in
theorem walk_long2 (za : List (List Int)) (vza : Value) (zb : List Int) (vzb : Value) (zc : List Int) (vzc : Value) (w : World) (hzb : Sl w vzb (intVals zb)) (hzc : Sl w vzc (intVals zc)) (hza : Rw w vza za) (lzb : zb.length ≤ 1048576) (lzc : zc.length ≤ 1048576) (hl : ¬ ((za.length + tot za) : Int) ≤ 1048576) :
    Calls Try.prog 10 #[vza, vzb, vzc] w fun e w' => e = .returned (.bool true) ∧ Below w.heap.size w w' := by
  have Hzb := Lib.hid hzb
  obtain ⟨Azb, Czb, rfl, Mzb, _⟩ := hzb.shape
  rw [intVals_len] at Mzb Hzb ⊢
  unfold maxLen at Mzb
  clear hzb
  have Hzc := Lib.hid hzc
  obtain ⟨Azc, Czc, rfl, Mzc, _⟩ := hzc.shape
  rw [intVals_len] at Mzc Hzc ⊢
  unfold maxLen at Mzc
  clear hzc
  have Hza := Lib.hid hza
  obtain ⟨Aza, Cza, rfl, Mza, _⟩ := hza.shape
  unfold maxLen at Mza
  clear hza
  have Qza := Lib.hid (show szR za 1048576 = -1 from szR_small (by omega))
  have B0 := Lib.hid (Below.refl w.heap.size w)
  go_enter Try.func10, Try.ntmps10
  go_wp2_with fail
  refine (sz_rows za _ 1048576 _ (Hza.out.below B0.out) (by omega) (by omega)).mono ?_
  rintro e w1 ⟨rfl, hb1⟩
  rw [Qza.out]
  have B1 := Lib.hid (B0.out.trans (hb1.mono B0.out.size))
  have S1 := Lib.hid hb1.size
  clear hb1
  go_wp2_with fail
  go_ret
  exact ⟨rfl, B1.out⟩

set_option linter.unusedVariables false in
set_option maxRecDepth 100000 in
set_option maxHeartbeats 1600000 in
theorem walk_short (za : List (List Int)) (vza : Value) (zb : List Int) (vzb : Value) (zc : List Int) (vzc : Value) (w : World) (hza : Rw w vza za) (hzb : Sl w vzb (intVals zb)) (hzc : Sl w vzc (intVals zc))  (lzb : zb.length ≤ 1048576) (lzc : zc.length ≤ 1048576) (lza : ((za.length + tot za) : Int) ≤ 1048576)  :
    Calls Try.prog 10 #[vza, vzb, vzc] w fun e w' => e = .returned (.bool true) ∧ Below w.heap.size w w' := by
  have HS := Lib.hid (fun (xza : Value) (xzb : Value) (xzc : Value) (w : World) (yza : Rw w xza za) (yzb : Sl w xzb (intVals zb)) (yzc : Sl w xzc (intVals zc))  => s_same8 za zb zc xza xzb xzc w yza yzb yzc)
  have HI := Lib.hid (fun (xza : Value) (xzb : Value) (xzc : Value) (w : World) (yza : Rw w xza za) (yzb : Sl w xzb (intVals zb)) (yzc : Sl w xzc (intVals zc))  => i_same8 za zb zc xza xzb xzc w yza yzb yzc)
  generalize sameR za zb zc = R at HS HI
  have Hza := Lib.hid hza
  obtain ⟨Aza, Cza, rfl, Mza, _⟩ := hza.shape
  unfold maxLen at Mza
  clear hza
  have Hzb := Lib.hid hzb
  obtain ⟨Azb, Czb, rfl, Mzb, _⟩ := hzb.shape
  rw [intVals_len] at Mzb Hzb ⊢
  unfold maxLen at Mzb
  clear hzb
  have Hzc := Lib.hid hzc
  obtain ⟨Azc, Czc, rfl, Mzc, _⟩ := hzc.shape
  rw [intVals_len] at Mzc Hzc ⊢
  unfold maxLen at Mzc
  clear hzc
  obtain ⟨Lza, hLza⟩ : ∃ q : Int, 1048576 - za.length - tot za = q := ⟨_, rfl⟩
  have g1za : 0 ≤ Lza := by omega
  have g2za : Lza ≤ 1048576 := by omega
  have Qza := Lib.hid (show szR za 1048576 = Lza by rw [szR_fits (by omega), hLza])
  clear hLza
  have eza : ∀ (i : Nat) zs, za[i]? = some zs → zs.length ≤ 1048576 := fun i zs hz => by have h1 := lt_of_get hz; have h2 := row_le_tot h1; rw [List.getElem?_eq_getElem h1] at hz; obtain rfl := Option.some.inj hz; omega
  have Fza := Lib.hid eza
  clear eza
  have B0 := Lib.hid (Below.refl w.heap.size w)
  go_enter Try.func10, Try.ntmps10
  go_wp2_with fail
  refine (sz_rows za _ 1048576 _ (Hza.out.below B0.out) (by omega) (by omega)).mono ?_
  rintro e w1 ⟨rfl, hb1⟩
  rw [Qza.out]
  have B1 := Lib.hid (B0.out.trans (hb1.mono B0.out.size))
  have S1 := Lib.hid hb1.size
  clear hb1
  go_wp2_with fail
  refine (to_rows za _ _ (Hza.out.below B1.out) (by omega) Fza.out).mono ?_
  rintro e w2 ⟨⟨r, rfl, ho⟩, hb2⟩
  have B2 := Lib.hid (B1.out.trans (hb2.mono B1.out.size))
  have S2 := Lib.hid hb2.size
  have cza_2 := Lib.hid ho
  clear hb2 ho
  go_wp2_with fail
  refine (to_int zb _ _ (Hzb.out.below B2.out) lzb).mono ?_
  rintro e w3 ⟨⟨r, rfl, ho⟩, hb3⟩
  have B3 := Lib.hid (B2.out.trans (hb3.mono B2.out.size))
  have S3 := Lib.hid hb3.size
  have cza_3 := Lib.hid (cza_2.out.below hb3)
  have czb_3 := Lib.hid (OwnV.of_owns ho)
  clear hb3 cza_2 ho
  go_wp2_with fail
  refine (to_int zc _ _ (Hzc.out.below B3.out) lzc).mono ?_
  rintro e w4 ⟨⟨r, rfl, ho⟩, hb4⟩
  have B4 := Lib.hid (B3.out.trans (hb4.mono B3.out.size))
  have S4 := Lib.hid hb4.size
  have cza_4 := Lib.hid (cza_3.out.below hb4)
  have czb_4 := Lib.hid (czb_3.out.below hb4)
  have czc_4 := Lib.hid (OwnV.of_owns ho)
  clear hb4 cza_3 czb_3 ho
  go_wp2_with fail
  refine (HS.out _ _ _ _ cza_4.out.rw czb_4.out.sl czc_4.out.sl ).mono ?_
  rintro e w5 ⟨rfl, hb5⟩
  have B5 := Lib.hid (B4.out.trans (hb5.mono B4.out.size))
  have S5 := Lib.hid hb5.size
  have cza_5 := Lib.hid (cza_4.out.below hb5)
  have czb_5 := Lib.hid (czb_4.out.below hb5)
  have czc_5 := Lib.hid (czc_4.out.below hb5)
  clear hb5 cza_4 czb_4 czc_4
  clear cza_5
  clear czb_5
  clear czc_5
  go_wp2_with fail
  refine (to_rows za _ _ (Hza.out.below B5.out) (by omega) Fza.out).mono ?_
  rintro e w6 ⟨⟨r, rfl, ho⟩, hb6⟩
  have B6 := Lib.hid (B5.out.trans (hb6.mono B5.out.size))
  have S6 := Lib.hid hb6.size
  have xza_6 := Lib.hid ho
  clear hb6 ho
  go_wp2_with fail
  refine (to_int zb _ _ (Hzb.out.below B6.out) lzb).mono ?_
  rintro e w7 ⟨⟨r, rfl, ho⟩, hb7⟩
  have B7 := Lib.hid (B6.out.trans (hb7.mono B6.out.size))
  have S7 := Lib.hid hb7.size
  have xza_7 := Lib.hid (xza_6.out.below hb7)
  have xzb_7 := Lib.hid (OwnV.of_owns ho)
  clear hb7 xza_6 ho
  go_wp2_with fail
  refine (to_int zc _ _ (Hzc.out.below B7.out) lzc).mono ?_
  rintro e w8 ⟨⟨r, rfl, ho⟩, hb8⟩
  have B8 := Lib.hid (B7.out.trans (hb8.mono B7.out.size))
  have S8 := Lib.hid hb8.size
  have xza_8 := Lib.hid (xza_7.out.below hb8)
  have xzb_8 := Lib.hid (xzb_7.out.below hb8)
  have xzc_8 := Lib.hid (OwnV.of_owns ho)
  clear hb8 xza_7 xzb_7 ho
  go_wp2_with fail
  refine (HI.out _ _ _ _ xza_8.out.rw xzb_8.out.sl xzc_8.out.sl ).mono ?_
  rintro e w9 ⟨rfl, hb9⟩
  have B9 := Lib.hid (B8.out.trans (hb9.mono B8.out.size))
  have S9 := Lib.hid hb9.size
  have xza_9 := Lib.hid (xza_8.out.below hb9)
  have xzb_9 := Lib.hid (xzb_8.out.below hb9)
  have xzc_9 := Lib.hid (xzc_8.out.below hb9)
  clear hb9 xza_8 xzb_8 xzc_8
  go_wp2_with fail
  refine (to_rows za _ _ (Hza.out.below B9.out) (by omega) Fza.out).mono ?_
  rintro e w10 ⟨⟨r, rfl, ho⟩, hb10⟩
  have B10 := Lib.hid (B9.out.trans (hb10.mono B9.out.size))
  have S10 := Lib.hid hb10.size
  have xza_10 := Lib.hid (xza_9.out.below hb10)
  have xzb_10 := Lib.hid (xzb_9.out.below hb10)
  have xzc_10 := Lib.hid (xzc_9.out.below hb10)
  have tza_10 := Lib.hid ho
  clear hb10 xza_9 xzb_9 xzc_9 ho
  go_wp2_with fail
  refine (eq_rows za _ _ _ xza_10.out.rw tza_10.out.rw).mono ?_
  rintro e w11 ⟨rfl, hb11⟩
  have B11 := Lib.hid (B10.out.trans (hb11.mono B10.out.size))
  have S11 := Lib.hid hb11.size
  have xza_11 := Lib.hid (xza_10.out.below hb11)
  have xzb_11 := Lib.hid (xzb_10.out.below hb11)
  have xzc_11 := Lib.hid (xzc_10.out.below hb11)
  have tza_11 := Lib.hid (tza_10.out.below hb11)
  clear hb11 xza_10 xzb_10 xzc_10 tza_10
  clear tza_11
  go_wp2_with fail
  refine (to_int zb _ _ (Hzb.out.below B11.out) lzb).mono ?_
  rintro e w12 ⟨⟨r, rfl, ho⟩, hb12⟩
  have B12 := Lib.hid (B11.out.trans (hb12.mono B11.out.size))
  have S12 := Lib.hid hb12.size
  have xza_12 := Lib.hid (xza_11.out.below hb12)
  have xzb_12 := Lib.hid (xzb_11.out.below hb12)
  have xzc_12 := Lib.hid (xzc_11.out.below hb12)
  have tzb_12 := Lib.hid (OwnV.of_owns ho)
  clear hb12 xza_11 xzb_11 xzc_11 ho
  go_wp2_with fail
  refine (eq_int zb _ _ _ xzb_12.out.sl tzb_12.out.sl).mono ?_
  rintro e w13 ⟨rfl, hb13⟩
  have B13 := Lib.hid (B12.out.trans (hb13.mono B12.out.size))
  have S13 := Lib.hid hb13.size
  have xza_13 := Lib.hid (xza_12.out.below hb13)
  have xzb_13 := Lib.hid (xzb_12.out.below hb13)
  have xzc_13 := Lib.hid (xzc_12.out.below hb13)
  have tzb_13 := Lib.hid (tzb_12.out.below hb13)
  clear hb13 xza_12 xzb_12 xzc_12 tzb_12
  clear tzb_13
  go_wp2_with fail
  refine (to_int zc _ _ (Hzc.out.below B13.out) lzc).mono ?_
  rintro e w14 ⟨⟨r, rfl, ho⟩, hb14⟩
  have B14 := Lib.hid (B13.out.trans (hb14.mono B13.out.size))
  have S14 := Lib.hid hb14.size
  have xza_14 := Lib.hid (xza_13.out.below hb14)
  have xzb_14 := Lib.hid (xzb_13.out.below hb14)
  have xzc_14 := Lib.hid (xzc_13.out.below hb14)
  have tzc_14 := Lib.hid (OwnV.of_owns ho)
  clear hb14 xza_13 xzb_13 xzc_13 ho
  go_wp2_with fail
  refine (eq_int zc _ _ _ xzc_14.out.sl tzc_14.out.sl).mono ?_
  rintro e w15 ⟨rfl, hb15⟩
  have B15 := Lib.hid (B14.out.trans (hb15.mono B14.out.size))
  have S15 := Lib.hid hb15.size
  have xza_15 := Lib.hid (xza_14.out.below hb15)
  have xzb_15 := Lib.hid (xzb_14.out.below hb15)
  have xzc_15 := Lib.hid (xzc_14.out.below hb15)
  have tzc_15 := Lib.hid (tzc_14.out.below hb15)
  clear hb15 xza_14 xzb_14 xzc_14 tzc_14
  clear tzc_15
  go_wp2_with fail
  go_ret
  exact ⟨rfl, B15.out⟩

theorem walk (za : List (List Int)) (vza : Value) (zb : List Int) (vzb : Value) (zc : List Int) (vzc : Value) (w : World) (hza : Rw w vza za) (hzb : Sl w vzb (intVals zb)) (hzc : Sl w vzc (intVals zc))    :
    Calls Try.prog 10 #[vza, vzb, vzc] w fun e w' => e = .returned (.bool true) ∧ Below w.heap.size w w' := by
  by_cases lzb : zb.length ≤ 1048576
  · by_cases lzc : zc.length ≤ 1048576
    · by_cases lza : ((za.length + tot za) : Int) ≤ 1048576
      · exact walk_short za vza zb vzb zc vzc w hza hzb hzc  lzb lzc lza 
      · exact walk_long2 za vza zb vzb zc vzc w hzb hzc hza lzb lzc lza
    · exact walk_long1 za vza zb vzb zc vzc w hzb hzc lzb (by omega)
  · exact walk_long0 za vza zb vzb zc vzc w hzb  (by omega)

theorem own : ownKnob Try.prog.godebug = none := by kernel_rfl
theorem laidOut : laidOutB Try.prog = true := by kernel_rfl


set_option maxRecDepth 100000 in
set_option linter.unusedVariables false in
theorem contract (H : Type) (enc : TypeId × Value → H) (W : World) (base : Nat) (args : Array Value) (ds gs : List (DataW H)) (before : List MemPlace)
    (hval : ∀ (j : Nat) t v, Try.f10.params[j]? = some t → args[j]? = some v → Value.okWide Try.prog W .any base t v)
    (hW : DataW.Whole enc Try.prog Try.f10.params.toList Rows.fnExactSameClassSpec.vars false W args.toList ds gs before) :
    Calls Try.prog 10 args W fun e W' => ∃ v, e = .returned v ∧ Rows.fnExactSameClassSpec.post enc Try.prog Try.f10 false true false false W args v W' := by
  have hW' := hW
  obtain ⟨p, q, hA0, hV, rfl, hfz, hnd⟩ := hW
  have hA : DataW.TrodAll enc Try.prog W 0 (fun _ => true) true Try.f10.params.toList args.toList ds p := hA0
  rw [Try.params10] at hA hval
  obtain ⟨v0, vs0, d0, ds0, p0, q0, hargs, rfl, rfl, h0, r0⟩ := trodAll_cons hA
  obtain ⟨v1, vs1, d1, ds1, p1, q1, rfl, rfl, rfl, h1, r1⟩ := trodAll_cons r0
  obtain ⟨v2, vs2, d2, ds2, p2, q2, rfl, rfl, rfl, h2, r2⟩ := trodAll_cons r1
  obtain ⟨rfl, rfl, rfl⟩ := trodAll_nil r2
  obtain rfl : args = #[v0, v1, v2] := by cases args; simp_all
  obtain ⟨zaA, zaL, zaC, rfl⟩ := okWide_slice Try.underlying22 (hval 0 22 v0 rfl rfl)
  obtain ⟨za, wza⟩ : ∃ zss : List (List Int), zss.length = zaL ∧ Rw W (.slice zaA zaL zaC) zss ∧ ∀ zs ∈ zss, ∀ z ∈ zs, (Lit.int .i64 z).wf = true := by
    obtain ⟨fuel, hf⟩ := h0
    exact rows_came Try.underlying22 Try.underlying31 Try.underlying3 (by kernel_rfl) (by kernel_rfl) hf
  obtain ⟨zbA, zbL, zbC, rfl⟩ := okWide_slice Try.underlying31 (hval 1 31 v1 rfl rfl)
  obtain ⟨zb, wzb⟩ : ∃ zs : List Int, zs.length = zbL ∧ Sl W (.slice zbA zbL zbC) (numVals .i64 zs) ∧ ∀ z ∈ zs, (Lit.int .i64 z).wf = true := by
    obtain ⟨fuel, hf⟩ := h1
    exact nums_came Try.underlying31 Try.underlying3 (by kernel_rfl) hf
  obtain ⟨zcA, zcL, zcC, rfl⟩ := okWide_slice Try.underlying31 (hval 2 31 v2 rfl rfl)
  obtain ⟨zc, wzc⟩ : ∃ zs : List Int, zs.length = zcL ∧ Sl W (.slice zcA zcL zcC) (numVals .i64 zs) ∧ ∀ z ∈ zs, (Lit.int .i64 z).wf = true := by
    obtain ⟨fuel, hf⟩ := h2
    exact nums_came Try.underlying31 Try.underlying3 (by kernel_rfl) hf
  refine (walk za _ zb _ zc _ W wza.2.1 wzb.2.1 wzc.2.1   ).mono fun e W' ⟨he, hb⟩ => ?_
  subst he
  exact ⟨_, rfl, law_post laidOut (by kernel_rfl) rfl Try.underlying4 rfl hW' (fun ds' h => by match ds', h with | [d0, d1, d2], _ => rfl) hb⟩


set_option maxRecDepth 100000 in
theorem lifted (os : Os) (started : os.Started) (H : Type) (enc : TypeId × Value → H) :
    ReturnsInHanded {} Try.checked os 10 .any (Rows.fnExactSameClassSpec.pre6 enc Try.prog Try.f10 Rows.fnExactSameClassRow.domain false) (Rows.fnExactSameClassSpec.post enc Try.prog Try.f10 false true false false) := by
  refine returnsInHanded_of_change (C := Try.checked) own started (by kernel_rfl) Try.func10
    (ChangeSpec.witness6 (enc := enc) (C := Try.checked) false ⟨#[], #[.slice none 0 0, .slice none 0 0, .slice none 0 0], []⟩ 8 (by kernel_rfl) (by kernel_rfl) (by kernel_rfl) (by kernel_rfl)) ?_
  intro W base args ds gs before hval hW _ _
  exact contract H enc W base args ds gs before hval hW

theorem said : Rows.FnExactSameClassSaid :=
  OpenClaim.holds_of_wide 10 Try.f10 rfl rfl rfl rfl rfl rfl rfl ⟨rfl, rfl, rfl, rfl, rfl⟩ rfl rfl rfl rfl rfl (by kernel_rfl) Try.func10 (by kernel_rfl)
    (of_decide_eq_true (by kernel_rfl)) (by unfold Func.isWrapper; first | (rw [if_pos (by decide +kernel)]; kernel_rfl) | (rw [if_neg (by decide +kernel)]; exact ⟨rfl, rfl⟩))
    (fun os started H enc _ => lifted os started H enc)
end Go.Proofs.Yteenheidomfpkaa.fnExactSameClass
