/- FnExactSeriesAt holds for every input. Conditions: none. -/
import Derived.Test.YtjijgagdaolkcaaMaz
import Derived.Test.YtjijgagdaolkcaaMav
import Derived.Test.YtjijgagdaolkcaaMao
import Derived.Test.YtjijgagdaolkcaaMau
import Derived.Test.YtjijgagdaolkcaaMad
import Derived.Test.YtjijgagdaolkcaaLaw
import Derived.Test.YtjijgagdaolkcaaRows
namespace Go.Proofs.Ytjijgagdaolkcaa.fnExactSeriesAt
open Go.ChangeShapes Go.WideShapes Go.ChangeAt Go.RowKit Go.Lib
open Go.ChangeMaps (open_string shut_string)
set_option linter.unusedVariables false in
set_option maxRecDepth 100000 in
set_option maxHeartbeats 400000 in
theorem walk_long0 (za : List Tm) (vza : Value) (zb : List Int) (vzb : Value) (w : World) (hzb : Sl w vzb (intVals zb))  (hl : 1048576 < zb.length) :
    Calls Try.prog 7 #[vza, vzb] w fun e w' => e = .returned (.bool true) ∧ Below w.heap.size w w' := by
  have Hzb := Lib.hid hzb
  obtain ⟨Azb, Czb, rfl, Mzb, _⟩ := hzb.shape
  rw [intVals_len] at Mzb Hzb ⊢
  unfold maxLen at Mzb
  clear hzb
  have B0 := Lib.hid (Below.refl w.heap.size w)
  go_enter Try.func7, Try.ntmps7
  go_wp2_with fail
  go_ret
  exact ⟨rfl, B0.out⟩

set_option linter.unusedVariables false in
set_option maxRecDepth 100000 in
set_option maxHeartbeats 400000 in
theorem walk_long1 (za : List Tm) (vza : Value) (zb : List Int) (vzb : Value) (w : World) (hzb : Sl w vzb (intVals zb)) (hza : Tms w vza za) (lzb : zb.length ≤ 1048576) (hl : ¬ (((za.length + totT za) : Nat) : Int) ≤ 1048576) :
    Calls Try.prog 7 #[vza, vzb] w fun e w' => e = .returned (.bool true) ∧ Below w.heap.size w w' := by
  have Hzb := Lib.hid hzb
  obtain ⟨Azb, Czb, rfl, Mzb, _⟩ := hzb.shape
  rw [intVals_len] at Mzb Hzb ⊢
  unfold maxLen at Mzb
  clear hzb
  have Hza := Lib.hid hza
  obtain ⟨Aza, Cza, rfl, Mza, _⟩ := hza.shape
  unfold maxLen at Mza
  clear hza
  have Qza := Lib.hid (show szTs za 1048576 = -1 from szTs_small (by omega))
  have B0 := Lib.hid (Below.refl w.heap.size w)
  go_enter Try.func7, Try.ntmps7
  go_wp2_with fail
  refine (sz_terms za _ 1048576 _ (Hza.out.below B0.out) (by omega) (by omega)).mono ?_
  rintro e w1 ⟨rfl, hb1⟩
  rw [Qza.out]
  have B1 := Lib.hid (B0.out.trans (hb1.mono B0.out.size))
  have S1 := Lib.hid hb1.size
  clear hb1
  go_wp2_with fail
  go_ret
  exact ⟨rfl, B1.out⟩

set_option linter.unusedVariables false in
set_option maxRecDepth 100000 in
set_option maxHeartbeats 3200000 in
theorem walk_short (za : List Tm) (vza : Value) (zb : List Int) (vzb : Value) (w : World) (hza : Tms w vza za) (hzb : Sl w vzb (intVals zb))  (lzb : zb.length ≤ 1048576) (lza : (((za.length + totT za) : Nat) : Int) ≤ 1048576)  :
    Calls Try.prog 7 #[vza, vzb] w fun e w' => e = .returned (.bool true) ∧ Below w.heap.size w w' := by
  have HS := Lib.hid (fun (xza : Value) (xzb : Value) (w : World) (yza : Tms w xza za) (yzb : Sl w xzb (intVals zb))  => s_seriesat za zb xza xzb w yza yzb)
  have HI := Lib.hid (fun (xza : Value) (xzb : Value) (w : World) (yza : Tms w xza za) (yzb : Sl w xzb (intVals zb))  => i_seriesat za zb xza xzb w yza yzb)
  generalize seriesAtR za zb = R at HS HI
  have Hza := Lib.hid hza
  obtain ⟨Aza, Cza, rfl, Mza, _⟩ := hza.shape
  unfold maxLen at Mza
  clear hza
  have Hzb := Lib.hid hzb
  obtain ⟨Azb, Czb, rfl, Mzb, _⟩ := hzb.shape
  rw [intVals_len] at Mzb Hzb ⊢
  unfold maxLen at Mzb
  clear hzb
  obtain ⟨Lza, hLza⟩ : ∃ q : Int, 1048576 - za.length - totT za = q := ⟨_, rfl⟩
  have g1za : 0 ≤ Lza := by omega
  have g2za : Lza ≤ 1048576 := by omega
  have Qza := Lib.hid (show szTs za 1048576 = Lza by rw [szTs_fits (by omega), hLza])
  clear hLza
  have Cza := Lib.hid (cntT_le za)
  have B0 := Lib.hid (Below.refl w.heap.size w)
  go_enter Try.func7, Try.ntmps7
  go_wp2_with fail
  refine (sz_terms za _ 1048576 _ (Hza.out.below B0.out) (by omega) (by omega)).mono ?_
  rintro e w1 ⟨rfl, hb1⟩
  rw [Qza.out]
  have B1 := Lib.hid (B0.out.trans (hb1.mono B0.out.size))
  have S1 := Lib.hid hb1.size
  clear hb1
  go_wp2_with fail
  refine (to_terms za _ _ (Hza.out.below B1.out) (by omega)).mono ?_
  rintro e w2 ⟨⟨r, rfl, ho⟩, hb2⟩
  have B2 := Lib.hid (B1.out.trans (hb2.mono B1.out.size))
  have S2 := Lib.hid hb2.size
  have cza_2 := Lib.hid ho
  clear hb2 ho
  go_wp2_with fail
  refine (to_int zb _ _ (Hzb.out.below B2.out) lzb).mono ?_
  rintro e w3 ⟨⟨r, rfl, ho⟩, hb3⟩
  have B3 := Lib.hid (B2.out.trans (hb3.mono B2.out.size))
  have S3 := Lib.hid hb3.size
  have cza_3 := Lib.hid (cza_2.out.below hb3)
  have czb_3 := Lib.hid (OwnV.of_owns ho)
  clear hb3 cza_2 ho
  go_wp2_with fail
  refine (HS.out _ _ _ cza_3.out.tms czb_3.out.sl ).mono ?_
  rintro e w4 ⟨rfl, hb4⟩
  have B4 := Lib.hid (B3.out.trans (hb4.mono B3.out.size))
  have S4 := Lib.hid hb4.size
  have cza_4 := Lib.hid (cza_3.out.below hb4)
  have czb_4 := Lib.hid (czb_3.out.below hb4)
  clear hb4 cza_3 czb_3
  clear cza_4
  clear czb_4
  go_wp2_with fail
  refine (to_terms za _ _ (Hza.out.below B4.out) (by omega)).mono ?_
  rintro e w5 ⟨⟨r, rfl, ho⟩, hb5⟩
  have B5 := Lib.hid (B4.out.trans (hb5.mono B4.out.size))
  have S5 := Lib.hid hb5.size
  have xza_5 := Lib.hid ho
  clear hb5 ho
  go_wp2_with fail
  refine (to_int zb _ _ (Hzb.out.below B5.out) lzb).mono ?_
  rintro e w6 ⟨⟨r, rfl, ho⟩, hb6⟩
  have B6 := Lib.hid (B5.out.trans (hb6.mono B5.out.size))
  have S6 := Lib.hid hb6.size
  have xza_6 := Lib.hid (xza_5.out.below hb6)
  have xzb_6 := Lib.hid (OwnV.of_owns ho)
  clear hb6 xza_5 ho
  go_wp2_with fail
  refine (HI.out _ _ _ xza_6.out.tms xzb_6.out.sl ).mono ?_
  rintro e w7 ⟨rfl, hb7⟩
  have B7 := Lib.hid (B6.out.trans (hb7.mono B6.out.size))
  have S7 := Lib.hid hb7.size
  have xza_7 := Lib.hid (xza_6.out.below hb7)
  have xzb_7 := Lib.hid (xzb_6.out.below hb7)
  clear hb7 xza_6 xzb_6
  go_wp2_with fail
  refine (to_terms za _ _ (Hza.out.below B7.out) (by omega)).mono ?_
  rintro e w8 ⟨⟨r, rfl, ho⟩, hb8⟩
  have B8 := Lib.hid (B7.out.trans (hb8.mono B7.out.size))
  have S8 := Lib.hid hb8.size
  have xza_8 := Lib.hid (xza_7.out.below hb8)
  have xzb_8 := Lib.hid (xzb_7.out.below hb8)
  have tza_8 := Lib.hid ho
  clear hb8 xza_7 xzb_7 ho
  go_wp2_with fail
  refine (eq_terms za _ _ _ xza_8.out.tms tza_8.out.tms).mono ?_
  rintro e w9 ⟨rfl, hb9⟩
  have B9 := Lib.hid (B8.out.trans (hb9.mono B8.out.size))
  have S9 := Lib.hid hb9.size
  have xza_9 := Lib.hid (xza_8.out.below hb9)
  have xzb_9 := Lib.hid (xzb_8.out.below hb9)
  have tza_9 := Lib.hid (tza_8.out.below hb9)
  clear hb9 xza_8 xzb_8 tza_8
  clear tza_9
  go_wp2_with fail
  refine (to_int zb _ _ (Hzb.out.below B9.out) lzb).mono ?_
  rintro e w10 ⟨⟨r, rfl, ho⟩, hb10⟩
  have B10 := Lib.hid (B9.out.trans (hb10.mono B9.out.size))
  have S10 := Lib.hid hb10.size
  have xza_10 := Lib.hid (xza_9.out.below hb10)
  have xzb_10 := Lib.hid (xzb_9.out.below hb10)
  have tzb_10 := Lib.hid (OwnV.of_owns ho)
  clear hb10 xza_9 xzb_9 ho
  go_wp2_with fail
  refine (eq_int zb _ _ _ xzb_10.out.sl tzb_10.out.sl).mono ?_
  rintro e w11 ⟨rfl, hb11⟩
  have B11 := Lib.hid (B10.out.trans (hb11.mono B10.out.size))
  have S11 := Lib.hid hb11.size
  have xza_11 := Lib.hid (xza_10.out.below hb11)
  have xzb_11 := Lib.hid (xzb_10.out.below hb11)
  have tzb_11 := Lib.hid (tzb_10.out.below hb11)
  clear hb11 xza_10 xzb_10 tzb_10
  clear tzb_11
  go_wp2_with fail
  go_ret
  exact ⟨rfl, B11.out⟩

theorem walk (za : List Tm) (vza : Value) (zb : List Int) (vzb : Value) (w : World) (hza : Tms w vza za) (hzb : Sl w vzb (intVals zb))    :
    Calls Try.prog 7 #[vza, vzb] w fun e w' => e = .returned (.bool true) ∧ Below w.heap.size w w' := by
  by_cases lzb : zb.length ≤ 1048576
  · by_cases lza : (((za.length + totT za) : Nat) : Int) ≤ 1048576
    · exact walk_short za vza zb vzb w hza hzb  lzb lza 
    · exact walk_long1 za vza zb vzb w hzb hza lzb lza
  · exact walk_long0 za vza zb vzb w hzb  (by omega)

theorem own : ownKnob Try.prog.godebug = none := by kernel_rfl
theorem laidOut : laidOutB Try.prog = true := by kernel_rfl


set_option maxRecDepth 100000 in
set_option linter.unusedVariables false in
theorem contract (H : Type) (enc : TypeId × Value → H) (W : World) (base : Nat) (args : Array Value) (ds gs : List (DataW H)) (before : List MemPlace)
    (hval : ∀ (j : Nat) t v, Try.f7.params[j]? = some t → args[j]? = some v → Value.okWide Try.prog W .any base t v)
    (hW : DataW.Whole enc Try.prog Try.f7.params.toList Rows.fnExactSeriesAtSpec.vars false W args.toList ds gs before) :
    Calls Try.prog 7 args W fun e W' => ∃ v, e = .returned v ∧ Rows.fnExactSeriesAtSpec.post enc Try.prog Try.f7 false true false false W args v W' := by
  have hW' := hW
  obtain ⟨p, q, hA0, hV, rfl, hfz, hnd⟩ := hW
  have hA : DataW.TrodAll enc Try.prog W 0 (fun _ => true) true Try.f7.params.toList args.toList ds p := hA0
  rw [Try.params7] at hA hval
  obtain ⟨v0, vs0, d0, ds0, p0, q0, hargs, rfl, rfl, h0, r0⟩ := trodAll_cons hA
  obtain ⟨v1, vs1, d1, ds1, p1, q1, rfl, rfl, rfl, h1, r1⟩ := trodAll_cons r0
  obtain ⟨rfl, rfl, rfl⟩ := trodAll_nil r1
  obtain rfl : args = #[v0, v1] := by cases args; simp_all
  obtain ⟨zaA, zaL, zaC, rfl⟩ := okWide_slice Try.underlying66 (hval 0 66 v0 rfl rfl)
  obtain ⟨za, wza⟩ : ∃ ts : List Tm, True ∧ Tms W (.slice zaA zaL zaC) ts ∧ ∀ z ∈ ts, (Lit.int .i64 z.1).wf = true := by
    obtain ⟨fuel, hf⟩ := h0
    obtain ⟨ts, h1, h2⟩ := tms_came Try.underlying66 Try.underlying59 (by kernel_rfl) rfl rfl rfl (by kernel_rfl) (by kernel_rfl) (by kernel_rfl) Try.underlying3 Try.underlying24 Try.underlying3 (by kernel_rfl) Try.underlying28 Try.underlying24 Try.underlying3 (by kernel_rfl) (by kernel_rfl) hf
    exact ⟨ts, trivial, h1, h2⟩
  obtain ⟨zbA, zbL, zbC, rfl⟩ := okWide_slice Try.underlying24 (hval 1 24 v1 rfl rfl)
  obtain ⟨zb, wzb⟩ : ∃ zs : List Int, zs.length = zbL ∧ Sl W (.slice zbA zbL zbC) (numVals .i64 zs) ∧ ∀ z ∈ zs, (Lit.int .i64 z).wf = true := by
    obtain ⟨fuel, hf⟩ := h1
    exact nums_came Try.underlying24 Try.underlying3 (by kernel_rfl) hf
  refine (walk za _ zb _ W wza.2.1 wzb.2.1   ).mono fun e W' ⟨he, hb⟩ => ?_
  subst he
  exact ⟨_, rfl, law_post laidOut (by kernel_rfl) rfl Try.underlying4 rfl hW' (fun ds' h => by match ds', h with | [d0, d1], _ => rfl) hb⟩


set_option maxRecDepth 100000 in
theorem lifted (os : Os) (started : os.Started) (H : Type) (enc : TypeId × Value → H) :
    ReturnsInHanded {} Try.checked os 7 .any (Rows.fnExactSeriesAtSpec.pre6 enc Try.prog Try.f7 Rows.fnExactSeriesAtRow.domain false) (Rows.fnExactSeriesAtSpec.post enc Try.prog Try.f7 false true false false) := by
  refine returnsInHanded_of_change (C := Try.checked) own started (by kernel_rfl) Try.func7
    (ChangeSpec.witness6 (enc := enc) (C := Try.checked) false ⟨#[], #[.slice none 0 0, .slice none 0 0], []⟩ 8 (by kernel_rfl) (by kernel_rfl) (by kernel_rfl) (by kernel_rfl)) ?_
  intro W base args ds gs before hval hW _ _
  exact contract H enc W base args ds gs before hval hW

theorem said : Rows.FnExactSeriesAtSaid :=
  OpenClaim.holds_of_wide 7 Try.f7 rfl rfl rfl rfl rfl rfl rfl ⟨rfl, rfl, rfl, rfl, rfl⟩ rfl rfl rfl rfl rfl (by kernel_rfl) Try.func7 (by kernel_rfl)
    (of_decide_eq_true (by kernel_rfl)) (by unfold Func.isWrapper; first | (rw [if_pos (by decide +kernel)]; kernel_rfl) | (rw [if_neg (by decide +kernel)]; exact ⟨rfl, rfl⟩))
    (fun os started H enc _ => lifted os started H enc)
end Go.Proofs.Ytjijgagdaolkcaa.fnExactSeriesAt
