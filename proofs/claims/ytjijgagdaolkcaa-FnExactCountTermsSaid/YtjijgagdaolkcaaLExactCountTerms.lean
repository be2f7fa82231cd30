/- FnExactCountTerms holds for every input. Conditions: none. -/
import Derived.Test.YtjijgagdaolkcaaMaz
import Derived.Test.YtjijgagdaolkcaaMav
import Derived.Test.YtjijgagdaolkcaaMao
import Derived.Test.YtjijgagdaolkcaaMau
import Derived.Test.YtjijgagdaolkcaaMad
import Derived.Test.YtjijgagdaolkcaaLaw
import Derived.Test.YtjijgagdaolkcaaRows
namespace Go.Proofs.Ytjijgagdaolkcaa.fnExactCountTerms
open Go.ChangeShapes Go.WideShapes Go.ChangeAt Go.RowKit Go.Lib
open Go.ChangeMaps (open_string shut_string)
set_option linter.unusedVariables false in
set_option maxRecDepth 100000 in
set_option maxHeartbeats 400000 in
theorem walk_long0 (za : List Tm) (vza : Value) (w : World) (hza : Tms w vza za)  (hl : ¬ (((za.length + totT za) : Nat) : Int) ≤ 1048576) :
    Calls Try.prog 9 #[vza] w fun e w' => e = .returned (.bool true) ∧ Below w.heap.size w w' := by
  have Hza := Lib.hid hza
  obtain ⟨Aza, Cza, rfl, Mza, _⟩ := hza.shape
  unfold maxLen at Mza
  clear hza
  have Qza := Lib.hid (show szTs za 1048576 = -1 from szTs_small (by omega))
  have B0 := Lib.hid (Below.refl w.heap.size w)
  go_enter Try.func9, Try.ntmps9
  go_wp2_with fail
  refine (sz_terms za _ 1048576 _ (Hza.out.below B0.out) (by omega) (by omega)).mono ?_
  rintro e w1 ⟨rfl, hb1⟩
  rw [Qza.out]
  have B1 := Lib.hid (B0.out.trans (hb1.mono B0.out.size))
  have S1 := Lib.hid hb1.size
  clear hb1
  go_wp2_with fail
  go_ret
  exact ⟨rfl, B1.out⟩

set_option linter.unusedVariables false in
set_option maxRecDepth 100000 in
set_option maxHeartbeats 3200000 in
theorem walk_short (za : List Tm) (vza : Value) (w : World) (hza : Tms w vza za)  (lza : (((za.length + totT za) : Nat) : Int) ≤ 1048576)  :
    Calls Try.prog 9 #[vza] w fun e w' => e = .returned (.bool true) ∧ Below w.heap.size w w' := by
  have HS := Lib.hid (fun (xza : Value) (w : World) (yza : Tms w xza za)  => s_count za xza w yza (by omega))
  have HI := Lib.hid (fun (xza : Value) (w : World) (yza : Tms w xza za)  => i_count za xza w yza (by omega))
  generalize countR za = R at HS HI
  have Hza := Lib.hid hza
  obtain ⟨Aza, Cza, rfl, Mza, _⟩ := hza.shape
  unfold maxLen at Mza
  clear hza
  obtain ⟨Lza, hLza⟩ : ∃ q : Int, 1048576 - za.length - totT za = q := ⟨_, rfl⟩
  have g1za : 0 ≤ Lza := by omega
  have g2za : Lza ≤ 1048576 := by omega
  have Qza := Lib.hid (show szTs za 1048576 = Lza by rw [szTs_fits (by omega), hLza])
  clear hLza
  have Cza := Lib.hid (cntT_le za)
  have B0 := Lib.hid (Below.refl w.heap.size w)
  go_enter Try.func9, Try.ntmps9
  go_wp2_with fail
  refine (sz_terms za _ 1048576 _ (Hza.out.below B0.out) (by omega) (by omega)).mono ?_
  rintro e w1 ⟨rfl, hb1⟩
  rw [Qza.out]
  have B1 := Lib.hid (B0.out.trans (hb1.mono B0.out.size))
  have S1 := Lib.hid hb1.size
  clear hb1
  go_wp2_with fail
  refine (to_terms za _ _ (Hza.out.below B1.out) (by omega)).mono ?_
  rintro e w2 ⟨⟨r, rfl, ho⟩, hb2⟩
  have B2 := Lib.hid (B1.out.trans (hb2.mono B1.out.size))
  have S2 := Lib.hid hb2.size
  have cza_2 := Lib.hid ho
  clear hb2 ho
  go_wp2_with fail
  refine (HS.out _ _ cza_2.out.tms ).mono ?_
  rintro e w3 ⟨rfl, hb3⟩
  have B3 := Lib.hid (B2.out.trans (hb3.mono B2.out.size))
  have S3 := Lib.hid hb3.size
  have cza_3 := Lib.hid (cza_2.out.below hb3)
  clear hb3 cza_2
  clear cza_3
  go_wp2_with fail
  refine (to_terms za _ _ (Hza.out.below B3.out) (by omega)).mono ?_
  rintro e w4 ⟨⟨r, rfl, ho⟩, hb4⟩
  have B4 := Lib.hid (B3.out.trans (hb4.mono B3.out.size))
  have S4 := Lib.hid hb4.size
  have xza_4 := Lib.hid ho
  clear hb4 ho
  go_wp2_with fail
  refine (HI.out _ _ xza_4.out.tms ).mono ?_
  rintro e w5 ⟨rfl, hb5⟩
  have B5 := Lib.hid (B4.out.trans (hb5.mono B4.out.size))
  have S5 := Lib.hid hb5.size
  have xza_5 := Lib.hid (xza_4.out.below hb5)
  clear hb5 xza_4
  go_wp2_with fail
  refine (to_terms za _ _ (Hza.out.below B5.out) (by omega)).mono ?_
  rintro e w6 ⟨⟨r, rfl, ho⟩, hb6⟩
  have B6 := Lib.hid (B5.out.trans (hb6.mono B5.out.size))
  have S6 := Lib.hid hb6.size
  have xza_6 := Lib.hid (xza_5.out.below hb6)
  have tza_6 := Lib.hid ho
  clear hb6 xza_5 ho
  go_wp2_with fail
  refine (eq_terms za _ _ _ xza_6.out.tms tza_6.out.tms).mono ?_
  rintro e w7 ⟨rfl, hb7⟩
  have B7 := Lib.hid (B6.out.trans (hb7.mono B6.out.size))
  have S7 := Lib.hid hb7.size
  have xza_7 := Lib.hid (xza_6.out.below hb7)
  have tza_7 := Lib.hid (tza_6.out.below hb7)
  clear hb7 xza_6 tza_6
  clear tza_7
  go_wp2_with fail
  go_ret
  exact ⟨rfl, B7.out⟩

theorem walk (za : List Tm) (vza : Value) (w : World) (hza : Tms w vza za)    :
    Calls Try.prog 9 #[vza] w fun e w' => e = .returned (.bool true) ∧ Below w.heap.size w w' := by
  by_cases lza : (((za.length + totT za) : Nat) : Int) ≤ 1048576
  · exact walk_short za vza w hza  lza 
  · exact walk_long0 za vza w hza  lza

theorem own : ownKnob Try.prog.godebug = none := by kernel_rfl
theorem laidOut : laidOutB Try.prog = true := by kernel_rfl


set_option maxRecDepth 100000 in
set_option linter.unusedVariables false in
theorem contract (H : Type) (enc : TypeId × Value → H) (W : World) (base : Nat) (args : Array Value) (ds gs : List (DataW H)) (before : List MemPlace)
    (hval : ∀ (j : Nat) t v, Try.f9.params[j]? = some t → args[j]? = some v → Value.okWide Try.prog W .any base t v)
    (hW : DataW.Whole enc Try.prog Try.f9.params.toList Rows.fnExactCountTermsSpec.vars false W args.toList ds gs before) :
    Calls Try.prog 9 args W fun e W' => ∃ v, e = .returned v ∧ Rows.fnExactCountTermsSpec.post enc Try.prog Try.f9 false true false false W args v W' := by
  have hW' := hW
  obtain ⟨p, q, hA0, hV, rfl, hfz, hnd⟩ := hW
  have hA : DataW.TrodAll enc Try.prog W 0 (fun _ => true) true Try.f9.params.toList args.toList ds p := hA0
  rw [Try.params9] at hA hval
  obtain ⟨v0, vs0, d0, ds0, p0, q0, hargs, rfl, rfl, h0, r0⟩ := trodAll_cons hA
  obtain ⟨rfl, rfl, rfl⟩ := trodAll_nil r0
  obtain rfl : args = #[v0] := by cases args; simp_all
  obtain ⟨zaA, zaL, zaC, rfl⟩ := okWide_slice Try.underlying66 (hval 0 66 v0 rfl rfl)
  obtain ⟨za, wza⟩ : ∃ ts : List Tm, True ∧ Tms W (.slice zaA zaL zaC) ts ∧ ∀ z ∈ ts, (Lit.int .i64 z.1).wf = true := by
    obtain ⟨fuel, hf⟩ := h0
    obtain ⟨ts, h1, h2⟩ := tms_came Try.underlying66 Try.underlying59 (by kernel_rfl) rfl rfl rfl (by kernel_rfl) (by kernel_rfl) (by kernel_rfl) Try.underlying3 Try.underlying24 Try.underlying3 (by kernel_rfl) Try.underlying28 Try.underlying24 Try.underlying3 (by kernel_rfl) (by kernel_rfl) hf
    exact ⟨ts, trivial, h1, h2⟩
  refine (walk za _ W wza.2.1   ).mono fun e W' ⟨he, hb⟩ => ?_
  subst he
  exact ⟨_, rfl, law_post laidOut (by kernel_rfl) rfl Try.underlying4 rfl hW' (fun ds' h => by match ds', h with | [d0], _ => rfl) hb⟩


set_option maxRecDepth 100000 in
theorem lifted (os : Os) (started : os.Started) (H : Type) (enc : TypeId × Value → H) :
    ReturnsInHanded {} Try.checked os 9 .any (Rows.fnExactCountTermsSpec.pre6 enc Try.prog Try.f9 Rows.fnExactCountTermsRow.domain false) (Rows.fnExactCountTermsSpec.post enc Try.prog Try.f9 false true false false) := by
  refine returnsInHanded_of_change (C := Try.checked) own started (by kernel_rfl) Try.func9
    (ChangeSpec.witness6 (enc := enc) (C := Try.checked) false ⟨#[], #[.slice none 0 0], []⟩ 8 (by kernel_rfl) (by kernel_rfl) (by kernel_rfl) (by kernel_rfl)) ?_
  intro W base args ds gs before hval hW _ _
  exact contract H enc W base args ds gs before hval hW

theorem said : Rows.FnExactCountTermsSaid :=
  OpenClaim.holds_of_wide 9 Try.f9 rfl rfl rfl rfl rfl rfl rfl ⟨rfl, rfl, rfl, rfl, rfl⟩ rfl rfl rfl rfl rfl (by kernel_rfl) Try.func9 (by kernel_rfl)
    (of_decide_eq_true (by kernel_rfl)) (by unfold Func.isWrapper; first | (rw [if_pos (by decide +kernel)]; kernel_rfl) | (rw [if_neg (by decide +kernel)]; exact ⟨rfl, rfl⟩))
    (fun os started H enc _ => lifted os started H enc)
end Go.Proofs.Ytjijgagdaolkcaa.fnExactCountTerms
