/- FnExactPrimitiveOf holds for every input. Conditions: none. -/
import Derived.Test.YtdjjcdkcffojkaaVecU
import Derived.Test.YtdjjcdkcffojkaaVecK
import Derived.Test.YtdjjcdkcffojkaaIntTo
import Derived.Test.YtdjjcdkcffojkaaIntEq
import Derived.Test.YtdjjcdkcffojkaaIntMark
import Derived.Test.YtdjjcdkcffojkaaLaw
import Derived.Test.YtdjjcdkcffojkaaRows
namespace Go.Proofs.Ytdjjcdkcffojkaa.fnExactPrimitiveOf
open Go.ChangeShapes Go.WideShapes Go.ChangeAt Go.RowKit Go.Lib
open Go.ChangeMaps (open_string shut_string)
set_option linter.unusedVariables false in
set_option maxRecDepth 100000 in
set_option maxHeartbeats 400000 in
theorem walk_long0 (za : List Int) (vza : Value) (w : World) (hza : Sl w vza (intVals za))  (hl : 1048576 < za.length) :
    Calls Try.prog 8 #[vza] w fun e w' => e = .returned (.bool true) ∧ Below w.heap.size w w' := by
  obtain ⟨Aza, Cza, rfl, Mza, _⟩ := hza.shape
  rw [intVals_len] at Mza ⊢
  unfold maxLen at Mza
  clear hza
  go_enter Try.func8, Try.ntmps8
  go_wp2_with fail
  go_ret
  exact ⟨rfl, Below.refl _ _⟩

set_option linter.unusedVariables false in
set_option maxRecDepth 100000 in
set_option maxHeartbeats 1600000 in
theorem walk_short (za : List Int) (vza : Value) (w : World) (hza : Sl w vza (intVals za))  (lza : za.length ≤ 1048576)  :
    Calls Try.prog 8 #[vza] w fun e w' => e = .returned (.bool true) ∧ Below w.heap.size w w' := by
  have HS := Lib.hid (fun (xza : Value) (w : World) (yza : Sl w xza (intVals za))  => s_primv za xza w yza)
  have HI := Lib.hid (fun (xza : Value) (w : World) (yza : Sl w xza (intVals za))  => i_primv za xza w yza)
  have HRL := Lib.hid (primR_len za)
  generalize primR za = R at HS HI HRL
  have Hza := Lib.hid hza
  obtain ⟨Aza, Cza, rfl, Mza, _⟩ := hza.shape
  rw [intVals_len] at Mza Hza ⊢
  unfold maxLen at Mza
  clear hza
  obtain ⟨nza, hnza⟩ : ∃ q : Nat, 1 + za.length = q := ⟨_, rfl⟩
  have kza : 1 ≤ nza := by omega
  have Kza := Lib.hid hnza
  have gza : nza ≤ 2097152 := by omega
  clear hnza
  have B0 := Lib.hid (Below.refl w.heap.size w)
  go_enter Try.func8, Try.ntmps8
  go_wp2_with fail
  refine (to_int za _ _ (Hza.out.below B0.out) lza).mono ?_
  rintro e w1 ⟨⟨r, rfl, ho⟩, hb1⟩
  have B1 := Lib.hid (B0.out.trans (hb1.mono B0.out.size))
  have S1 := Lib.hid hb1.size
  have cza_1 := Lib.hid (OwnV.of_owns ho)
  clear hb1 ho
  go_wp2_with fail
  refine (HS.out _ _ cza_1.out.sl ).mono ?_
  rintro e w2 ⟨⟨r, rfl, ho⟩, hb2⟩
  have B2 := Lib.hid (B1.out.trans (hb2.mono B1.out.size))
  have S2 := Lib.hid hb2.size
  have cza_2 := Lib.hid (cza_1.out.below hb2)
  have W_2 := Lib.hid ho
  clear hb2 ho
  clear cza_2
  go_wp2_with fail
  refine (to_int za _ _ (Hza.out.below B2.out) lza).mono ?_
  rintro e w3 ⟨⟨r, rfl, ho⟩, hb3⟩
  have B3 := Lib.hid (B2.out.trans (hb3.mono B2.out.size))
  have S3 := Lib.hid hb3.size
  have W_3 := Lib.hid (W_2.out.below hb3)
  have xza_3 := Lib.hid (OwnV.of_owns ho)
  clear hb3 ho
  go_wp2_with fail
  refine (HI.out _ _ xza_3.out.sl ).mono ?_
  rintro e w4 ⟨⟨r, rfl, ho⟩, hb4⟩
  have B4 := Lib.hid (B3.out.trans (hb4.mono B3.out.size))
  have S4 := Lib.hid hb4.size
  have W_4 := Lib.hid (W_3.out.below hb4)
  have xza_4 := Lib.hid (xza_3.out.below hb4)
  have G_4 := Lib.hid ho
  clear hb4 ho
  go_wp2_with fail
  refine (eq_int R.1 _ _ _ G_4.out.sl W_4.out.sl).mono ?_
  rintro e w5 ⟨rfl, hb5⟩
  have B5 := Lib.hid (B4.out.trans (hb5.mono B4.out.size))
  have S5 := Lib.hid hb5.size
  have W_5 := Lib.hid (W_4.out.below hb5)
  have xza_5 := Lib.hid (xza_4.out.below hb5)
  have G_5 := Lib.hid (G_4.out.below hb5)
  clear hb5
  go_wp2_with fail
  refine (to_int za _ _ (Hza.out.below B5.out) lza).mono ?_
  rintro e w6 ⟨⟨r, rfl, ho⟩, hb6⟩
  have B6 := Lib.hid (B5.out.trans (hb6.mono B5.out.size))
  have S6 := Lib.hid hb6.size
  have W_6 := Lib.hid (W_5.out.below hb6)
  have xza_6 := Lib.hid (xza_5.out.below hb6)
  have G_6 := Lib.hid (G_5.out.below hb6)
  have tza_6 := Lib.hid (OwnV.of_owns ho)
  clear hb6 ho
  go_wp2_with fail
  refine (eq_int za _ _ _ xza_6.out.sl tza_6.out.sl).mono ?_
  rintro e w7 ⟨rfl, hb7⟩
  have B7 := Lib.hid (B6.out.trans (hb7.mono B6.out.size))
  have S7 := Lib.hid hb7.size
  have W_7 := Lib.hid (W_6.out.below hb7)
  have xza_7 := Lib.hid (xza_6.out.below hb7)
  have G_7 := Lib.hid (G_6.out.below hb7)
  have tza_7 := Lib.hid (tza_6.out.below hb7)
  clear hb7
  clear tza_7
  go_wp2_with fail
  refine (mark_int za _ _ 1 nza _ _ (Nat.le_refl 1) Kza.out (by omega) xza_7.out).mono ?_
  rintro e w8 ⟨rfl, ho, hb8⟩
  have B8 := Lib.hid (B7.out.trans (hb8.below (by have := S1.out; have := S2.out; have := S3.out; have := S4.out; have := S5.out; have := S6.out; have := S7.out; omega) (by have := S1.out; have := S2.out; have := S3.out; have := S4.out; have := S5.out; have := S6.out; have := S7.out; omega)))
  have S8 := Lib.hid hb8.size
  have W_8 := Lib.hid (W_7.out.kept hb8 (by have := S1.out; have := S2.out; have := S3.out; have := S4.out; have := S5.out; have := S6.out; have := S7.out; omega))
  have G_8 := Lib.hid (G_7.out.kept hb8 (by have := S1.out; have := S2.out; have := S3.out; have := S4.out; have := S5.out; have := S6.out; have := S7.out; omega))
  have xza_8 := Lib.hid ho
  clear hb8 ho
  clear xza_8
  go_wp2_with fail
  refine (eq_int R.1 _ _ _ G_8.out.sl W_8.out.sl).mono ?_
  rintro e w9 ⟨rfl, hb9⟩
  have B9 := Lib.hid (B8.out.trans (hb9.mono B8.out.size))
  have S9 := Lib.hid hb9.size
  have W_9 := Lib.hid (W_8.out.below hb9)
  have G_9 := Lib.hid (G_8.out.below hb9)
  clear hb9
  have ml := HRL.out
  obtain ⟨mm, hmm⟩ : ∃ q : Nat, 1 + R.1.length = q := ⟨_, rfl⟩
  have gmm : mm ≤ 4611686018427387904 := by omega
  have KM := Lib.hid hmm
  clear ml hmm
  go_wp2_with fail
  refine (mark_int R.1 _ _ 1 mm _ _ (Nat.le_refl 1) KM.out gmm G_9.out).mono ?_
  rintro e w10 ⟨rfl, ho, hb10⟩
  have B10 := Lib.hid (B9.out.trans (hb10.below (by have := S1.out; have := S2.out; have := S3.out; have := S4.out; have := S5.out; have := S6.out; have := S7.out; have := S8.out; have := S9.out; omega) (by have := S1.out; have := S2.out; have := S3.out; have := S4.out; have := S5.out; have := S6.out; have := S7.out; have := S8.out; have := S9.out; omega)))
  have S10 := Lib.hid hb10.size
  have W_10 := Lib.hid (W_9.out.kept hb10 (by have := S1.out; have := S2.out; have := S3.out; have := S4.out; have := S5.out; have := S6.out; have := S7.out; have := S8.out; have := S9.out; omega))
  have G_10 := Lib.hid ho
  clear hb10 ho
  go_wp2_with fail
  refine (held_int _ R.1.length 1 mm _ (Nat.le_refl 1) KM.out gmm G_10.out.sl).mono ?_
  rintro e w11 ⟨rfl, hb11⟩
  have B11 := Lib.hid (B10.out.trans (hb11.mono B10.out.size))
  have S11 := Lib.hid hb11.size
  have W_11 := Lib.hid (W_10.out.below hb11)
  have G_11 := Lib.hid (G_10.out.below hb11)
  clear hb11
  go_wp2_with fail
  refine (to_int za _ _ (Hza.out.below B11.out) lza).mono ?_
  rintro e w12 ⟨⟨r, rfl, ho⟩, hb12⟩
  have B12 := Lib.hid (B11.out.trans (hb12.mono B11.out.size))
  have S12 := Lib.hid hb12.size
  have W_12 := Lib.hid (W_11.out.below hb12)
  have G_12 := Lib.hid (G_11.out.below hb12)
  have dza_12 := Lib.hid (OwnV.of_owns ho)
  clear hb12 ho
  go_wp2_with fail
  refine (HI.out _ _ dza_12.out.sl ).mono ?_
  rintro e w13 ⟨⟨r, rfl, ho⟩, hb13⟩
  have B13 := Lib.hid (B12.out.trans (hb13.mono B12.out.size))
  have S13 := Lib.hid hb13.size
  have W_13 := Lib.hid (W_12.out.below hb13)
  have G_13 := Lib.hid (G_12.out.below hb13)
  have dza_13 := Lib.hid (dza_12.out.below hb13)
  have Z_13 := Lib.hid ho
  clear hb13 ho
  clear dza_13
  go_wp2_with fail
  refine (eq_int R.1 _ _ _ Z_13.out.sl W_13.out.sl).mono ?_
  rintro e w14 ⟨rfl, hb14⟩
  have B14 := Lib.hid (B13.out.trans (hb14.mono B13.out.size))
  have S14 := Lib.hid hb14.size
  have W_14 := Lib.hid (W_13.out.below hb14)
  have G_14 := Lib.hid (G_13.out.below hb14)
  have Z_14 := Lib.hid (Z_13.out.below hb14)
  clear hb14
  clear Z_14
  clear W_14
  go_wp2_with fail
  refine (held_int _ R.1.length 1 mm _ (Nat.le_refl 1) KM.out gmm G_14.out.sl).mono ?_
  rintro e w15 ⟨rfl, hb15⟩
  have B15 := Lib.hid (B14.out.trans (hb15.mono B14.out.size))
  have S15 := Lib.hid hb15.size
  have G_15 := Lib.hid (G_14.out.below hb15)
  clear hb15
  go_wp2_with fail
  go_ret
  exact ⟨rfl, B15.out⟩

theorem walk (za : List Int) (vza : Value) (w : World) (hza : Sl w vza (intVals za))    :
    Calls Try.prog 8 #[vza] w fun e w' => e = .returned (.bool true) ∧ Below w.heap.size w w' := by
  by_cases lza : za.length ≤ 1048576
  · exact walk_short za vza w hza  lza 
  · exact walk_long0 za vza w hza  (by omega)

theorem own : ownKnob Try.prog.godebug = none := by kernel_rfl
theorem laidOut : laidOutB Try.prog = true := by kernel_rfl


set_option maxRecDepth 100000 in
set_option linter.unusedVariables false in
theorem contract (H : Type) (enc : TypeId × Value → H) (W : World) (base : Nat) (args : Array Value) (ds gs : List (DataW H)) (before : List MemPlace)
    (hval : ∀ (j : Nat) t v, Try.f8.params[j]? = some t → args[j]? = some v → Value.okWide Try.prog W .any base t v)
    (hW : DataW.Whole enc Try.prog Try.f8.params.toList Rows.fnExactPrimitiveOfSpec.vars false W args.toList ds gs before) :
    Calls Try.prog 8 args W fun e W' => ∃ v, e = .returned v ∧ Rows.fnExactPrimitiveOfSpec.post enc Try.prog Try.f8 false true false false W args v W' := by
  have hW' := hW
  obtain ⟨p, q, hA0, hV, rfl, hfz, hnd⟩ := hW
  have hA : DataW.TrodAll enc Try.prog W 0 (fun _ => true) true Try.f8.params.toList args.toList ds p := hA0
  rw [Try.params8] at hA hval
  obtain ⟨v0, vs0, d0, ds0, p0, q0, hargs, rfl, rfl, h0, r0⟩ := trodAll_cons hA
  obtain ⟨rfl, rfl, rfl⟩ := trodAll_nil r0
  obtain rfl : args = #[v0] := by cases args; simp_all
  obtain ⟨zaA, zaL, zaC, rfl⟩ := okWide_slice Try.underlying22 (hval 0 22 v0 rfl rfl)
  obtain ⟨za, wza⟩ : ∃ zs : List Int, zs.length = zaL ∧ Sl W (.slice zaA zaL zaC) (numVals .i64 zs) ∧ ∀ z ∈ zs, (Lit.int .i64 z).wf = true := by
    obtain ⟨fuel, hf⟩ := h0
    exact nums_came Try.underlying22 Try.underlying3 (by kernel_rfl) hf
  refine (walk za _ W wza.2.1   ).mono fun e W' ⟨he, hb⟩ => ?_
  subst he
  exact ⟨_, rfl, law_post laidOut (by kernel_rfl) rfl Try.underlying4 rfl hW' (fun ds' h => by match ds', h with | [d0], _ => rfl) hb⟩


set_option maxRecDepth 100000 in
theorem lifted (os : Os) (started : os.Started) (H : Type) (enc : TypeId × Value → H) :
    ReturnsInHanded {} Try.checked os 8 .any (Rows.fnExactPrimitiveOfSpec.pre6 enc Try.prog Try.f8 Rows.fnExactPrimitiveOfRow.domain false) (Rows.fnExactPrimitiveOfSpec.post enc Try.prog Try.f8 false true false false) := by
  refine returnsInHanded_of_change (C := Try.checked) own started (by kernel_rfl) Try.func8
    (ChangeSpec.witness6 (enc := enc) (C := Try.checked) false ⟨#[], #[.slice none 0 0], []⟩ 8 (by kernel_rfl) (by kernel_rfl) (by kernel_rfl) (by kernel_rfl)) ?_
  intro W base args ds gs before hval hW _ _
  exact contract H enc W base args ds gs before hval hW

theorem said : Rows.FnExactPrimitiveOfSaid :=
  OpenClaim.holds_of_wide 8 Try.f8 rfl rfl rfl rfl rfl rfl rfl ⟨rfl, rfl, rfl, rfl, rfl⟩ rfl rfl rfl rfl rfl (by kernel_rfl) Try.func8 (by kernel_rfl)
    (of_decide_eq_true (by kernel_rfl)) (by unfold Func.isWrapper; first | (rw [if_pos (by decide +kernel)]; kernel_rfl) | (rw [if_neg (by decide +kernel)]; exact ⟨rfl, rfl⟩))
    (fun os started H enc _ => lifted os started H enc)
end Go.Proofs.Ytdjjcdkcffojkaa.fnExactPrimitiveOf
