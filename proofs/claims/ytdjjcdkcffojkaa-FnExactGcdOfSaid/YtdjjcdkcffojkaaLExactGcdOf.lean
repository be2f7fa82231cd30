/- FnExactGcdOf holds for every input. Conditions: none. -/
import Derived.Test.YtdjjcdkcffojkaaVecU
import Derived.Test.YtdjjcdkcffojkaaVecK
import Derived.Test.YtdjjcdkcffojkaaIntTo
import Derived.Test.YtdjjcdkcffojkaaIntEq
import Derived.Test.YtdjjcdkcffojkaaIntMark
import Derived.Test.YtdjjcdkcffojkaaLaw
import Derived.Test.YtdjjcdkcffojkaaRows
namespace Go.Proofs.Ytdjjcdkcffojkaa.fnExactGcdOf
open Go.ChangeShapes Go.WideShapes Go.ChangeAt Go.RowKit Go.Lib
open Go.ChangeMaps (open_string shut_string)
set_option linter.unusedVariables false in
set_option maxRecDepth 100000 in
set_option maxHeartbeats 400000 in
theorem walk_long0 (za : List Int) (vza : Value) (w : World) (hza : Sl w vza (intVals za))  (hl : 1048576 < za.length) :
    Calls Try.prog 7 #[vza] w fun e w' => e = .returned (.bool true) ∧ Below w.heap.size w w' := by
  obtain ⟨Aza, Cza, rfl, Mza, _⟩ := hza.shape
  rw [intVals_len] at Mza ⊢
  unfold maxLen at Mza
  clear hza
  go_enter Try.func7, Try.ntmps7
  go_wp2_with fail
  go_ret
  exact ⟨rfl, Below.refl _ _⟩

set_option linter.unusedVariables false in
set_option maxRecDepth 100000 in
set_option maxHeartbeats 1600000 in
theorem walk_short (za : List Int) (vza : Value) (w : World) (hza : Sl w vza (intVals za))  (lza : za.length ≤ 1048576)  :
    Calls Try.prog 7 #[vza] w fun e w' => e = .returned (.bool true) ∧ Below w.heap.size w w' := by
  have HS := Lib.hid (fun (xza : Value) (w : World) (yza : Sl w xza (intVals za))  => s_gcdof za xza w yza)
  have HI := Lib.hid (fun (xza : Value) (w : World) (yza : Sl w xza (intVals za))  => i_gcdof za xza w yza)
  generalize gcdR za = R at HS HI
  have Hza := Lib.hid hza
  obtain ⟨Aza, Cza, rfl, Mza, _⟩ := hza.shape
  rw [intVals_len] at Mza Hza ⊢
  unfold maxLen at Mza
  clear hza
  have B0 := Lib.hid (Below.refl w.heap.size w)
  go_enter Try.func7, Try.ntmps7
  go_wp2_with fail
  refine (to_int za _ _ (Hza.out.below B0.out) lza).mono ?_
  rintro e w1 ⟨⟨r, rfl, ho⟩, hb1⟩
  have B1 := Lib.hid (B0.out.trans (hb1.mono B0.out.size))
  have S1 := Lib.hid hb1.size
  have cza_1 := Lib.hid (OwnV.of_owns ho)
  clear hb1 ho
  go_wp2_with fail
  refine (HS.out _ _ cza_1.out.sl ).mono ?_
  rintro e w2 ⟨rfl, hb2⟩
  have B2 := Lib.hid (B1.out.trans (hb2.mono B1.out.size))
  have S2 := Lib.hid hb2.size
  have cza_2 := Lib.hid (cza_1.out.below hb2)
  clear hb2
  clear cza_2
  go_wp2_with fail
  refine (to_int za _ _ (Hza.out.below B2.out) lza).mono ?_
  rintro e w3 ⟨⟨r, rfl, ho⟩, hb3⟩
  have B3 := Lib.hid (B2.out.trans (hb3.mono B2.out.size))
  have S3 := Lib.hid hb3.size
  have xza_3 := Lib.hid (OwnV.of_owns ho)
  clear hb3 ho
  go_wp2_with fail
  refine (HI.out _ _ xza_3.out.sl ).mono ?_
  rintro e w4 ⟨rfl, hb4⟩
  have B4 := Lib.hid (B3.out.trans (hb4.mono B3.out.size))
  have S4 := Lib.hid hb4.size
  have xza_4 := Lib.hid (xza_3.out.below hb4)
  clear hb4
  go_wp2_with fail
  refine (to_int za _ _ (Hza.out.below B4.out) lza).mono ?_
  rintro e w5 ⟨⟨r, rfl, ho⟩, hb5⟩
  have B5 := Lib.hid (B4.out.trans (hb5.mono B4.out.size))
  have S5 := Lib.hid hb5.size
  have xza_5 := Lib.hid (xza_4.out.below hb5)
  have tza_5 := Lib.hid (OwnV.of_owns ho)
  clear hb5 ho
  go_wp2_with fail
  refine (eq_int za _ _ _ xza_5.out.sl tza_5.out.sl).mono ?_
  rintro e w6 ⟨rfl, hb6⟩
  have B6 := Lib.hid (B5.out.trans (hb6.mono B5.out.size))
  have S6 := Lib.hid hb6.size
  have xza_6 := Lib.hid (xza_5.out.below hb6)
  have tza_6 := Lib.hid (tza_5.out.below hb6)
  clear hb6
  clear tza_6
  go_wp2_with fail
  go_ret
  exact ⟨rfl, B6.out⟩

theorem walk (za : List Int) (vza : Value) (w : World) (hza : Sl w vza (intVals za))    :
    Calls Try.prog 7 #[vza] w fun e w' => e = .returned (.bool true) ∧ Below w.heap.size w w' := by
  by_cases lza : za.length ≤ 1048576
  · exact walk_short za vza w hza  lza 
  · exact walk_long0 za vza w hza  (by omega)

theorem own : ownKnob Try.prog.godebug = none := by kernel_rfl
theorem laidOut : laidOutB Try.prog = true := by kernel_rfl


set_option maxRecDepth 100000 in
set_option linter.unusedVariables false in
theorem contract (H : Type) (enc : TypeId × Value → H) (W : World) (base : Nat) (args : Array Value) (ds gs : List (DataW H)) (before : List MemPlace)
    (hval : ∀ (j : Nat) t v, Try.f7.params[j]? = some t → args[j]? = some v → Value.okWide Try.prog W .any base t v)
    (hW : DataW.Whole enc Try.prog Try.f7.params.toList Rows.fnExactGcdOfSpec.vars false W args.toList ds gs before) :
    Calls Try.prog 7 args W fun e W' => ∃ v, e = .returned v ∧ Rows.fnExactGcdOfSpec.post enc Try.prog Try.f7 false true false false W args v W' := by
  have hW' := hW
  obtain ⟨p, q, hA0, hV, rfl, hfz, hnd⟩ := hW
  have hA : DataW.TrodAll enc Try.prog W 0 (fun _ => true) true Try.f7.params.toList args.toList ds p := hA0
  rw [Try.params7] at hA hval
  obtain ⟨v0, vs0, d0, ds0, p0, q0, hargs, rfl, rfl, h0, r0⟩ := trodAll_cons hA
  obtain ⟨rfl, rfl, rfl⟩ := trodAll_nil r0
  obtain rfl : args = #[v0] := by cases args; simp_all
  obtain ⟨zaA, zaL, zaC, rfl⟩ := okWide_slice Try.underlying22 (hval 0 22 v0 rfl rfl)
  obtain ⟨za, wza⟩ : ∃ zs : List Int, zs.length = zaL ∧ Sl W (.slice zaA zaL zaC) (numVals .i64 zs) ∧ ∀ z ∈ zs, (Lit.int .i64 z).wf = true := by
    obtain ⟨fuel, hf⟩ := h0
    exact nums_came Try.underlying22 Try.underlying3 (by kernel_rfl) hf
  refine (walk za _ W wza.2.1   ).mono fun e W' ⟨he, hb⟩ => ?_
  subst he
  exact ⟨_, rfl, law_post laidOut (by kernel_rfl) rfl Try.underlying4 rfl hW' (fun ds' h => by match ds', h with | [d0], _ => rfl) hb⟩


set_option maxRecDepth 100000 in
theorem lifted (os : Os) (started : os.Started) (H : Type) (enc : TypeId × Value → H) :
    ReturnsInHanded {} Try.checked os 7 .any (Rows.fnExactGcdOfSpec.pre6 enc Try.prog Try.f7 Rows.fnExactGcdOfRow.domain false) (Rows.fnExactGcdOfSpec.post enc Try.prog Try.f7 false true false false) := by
  refine returnsInHanded_of_change (C := Try.checked) own started (by kernel_rfl) Try.func7
    (ChangeSpec.witness6 (enc := enc) (C := Try.checked) false ⟨#[], #[.slice none 0 0], []⟩ 8 (by kernel_rfl) (by kernel_rfl) (by kernel_rfl) (by kernel_rfl)) ?_
  intro W base args ds gs before hval hW _ _
  exact contract H enc W base args ds gs before hval hW

theorem said : Rows.FnExactGcdOfSaid :=
  OpenClaim.holds_of_wide 7 Try.f7 rfl rfl rfl rfl rfl rfl rfl ⟨rfl, rfl, rfl, rfl, rfl⟩ rfl rfl rfl rfl rfl (by kernel_rfl) Try.func7 (by kernel_rfl)
    (of_decide_eq_true (by kernel_rfl)) (by unfold Func.isWrapper; first | (rw [if_pos (by decide +kernel)]; kernel_rfl) | (rw [if_neg (by decide +kernel)]; exact ⟨rfl, rfl⟩))
    (fun os started H enc _ => lifted os started H enc)
end Go.Proofs.Ytdjjcdkcffojkaa.fnExactGcdOf
