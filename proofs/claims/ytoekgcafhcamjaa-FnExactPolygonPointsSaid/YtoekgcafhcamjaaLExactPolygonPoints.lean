/- FnExactPolygonPoints holds for every input. Conditions: none. -/
import Derived.Test.YtoekgcafhcamjaaMas
import Derived.Test.YtoekgcafhcamjaaRowTo
import Derived.Test.YtoekgcafhcamjaaRowEq
import Derived.Test.YtoekgcafhcamjaaRowMark
import Derived.Test.YtoekgcafhcamjaaMac
import Derived.Test.YtoekgcafhcamjaaLaw
import Derived.Test.YtoekgcafhcamjaaRows
namespace Go.Proofs.Ytoekgcafhcamjaa.fnExactPolygonPoints
open Go.ChangeShapes Go.WideShapes Go.ChangeAt Go.RowKit Go.Lib
open Go.ChangeMaps (open_string shut_string)
set_option linter.unusedVariables false in
set_option maxRecDepth 100000 in
set_option maxHeartbeats 400000 in
theorem walk_long0 (za : List (List Int)) (vza : Value) (w : World) (hza : Rw w vza za)  (hl : ¬ ((za.length + tot za) : Int) ≤ 1048576) :
    Calls Try.prog 10 #[vza] w fun e w' => e = .returned (.bool true) ∧ Below w.heap.size w w' := by
  have Hza := Lib.hid hza
  obtain ⟨Aza, Cza, rfl, Mza, _⟩ := hza.shape
  unfold maxLen at Mza
  clear hza
  have Qza := Lib.hid (show szR za 1048576 = -1 from szR_small (by omega))
  have B0 := Lib.hid (Below.refl w.heap.size w)
  go_enter Try.func10, Try.ntmps10
  go_wp2_with fail
  refine (sz_rows za _ 1048576 _ (Hza.out.below B0.out) (by omega) (by omega)).mono ?_
  rintro e w1 ⟨rfl, hb1⟩
  rw [Qza.out]
  have B1 := Lib.hid (B0.out.trans (hb1.mono B0.out.size))
  have S1 := Lib.hid hb1.size
  clear hb1
  go_wp2_with fail
  go_ret
  exact ⟨rfl, B1.out⟩

set_option linter.unusedVariables false in
set_option maxRecDepth 100000 in
set_option maxHeartbeats 1600000 in
theorem walk_short (za : List (List Int)) (vza : Value) (w : World) (hza : Rw w vza za)  (lza : ((za.length + tot za) : Int) ≤ 1048576)  :
    Calls Try.prog 10 #[vza] w fun e w' => e = .returned (.bool true) ∧ Below w.heap.size w w' := by
  have HS := Lib.hid (fun (xza : Value) (w : World) (yza : Rw w xza za)  => s_ppoints za xza w yza)
  have HI := Lib.hid (fun (xza : Value) (w : World) (yza : Rw w xza za)  => i_points za xza w yza)
  have HRL := Lib.hid (pointsR_len za)
  generalize pointsR za = R at HS HI HRL
  have Hza := Lib.hid hza
  obtain ⟨Aza, Cza, rfl, Mza, _⟩ := hza.shape
  unfold maxLen at Mza
  clear hza
  obtain ⟨Lza, hLza⟩ : ∃ q : Int, 1048576 - za.length - tot za = q := ⟨_, rfl⟩
  have g1za : 0 ≤ Lza := by omega
  have g2za : Lza ≤ 1048576 := by omega
  have Qza := Lib.hid (show szR za 1048576 = Lza by rw [szR_fits (by omega), hLza])
  clear hLza
  have eza : ∀ (i : Nat) zs, za[i]? = some zs → zs.length ≤ 1048576 := fun i zs hz => by have h1 := lt_of_get hz; have h2 := row_le_tot h1; rw [List.getElem?_eq_getElem h1] at hz; obtain rfl := Option.some.inj hz; omega
  have Fza := Lib.hid eza
  clear eza
  obtain ⟨nza, hnza⟩ : ∃ q : Nat, 1 + tot za = q := ⟨_, rfl⟩
  have kza : 1 ≤ nza := by omega
  have Kza := Lib.hid hnza
  have gza : nza ≤ 2097152 := by omega
  clear hnza
  have B0 := Lib.hid (Below.refl w.heap.size w)
  go_enter Try.func10, Try.ntmps10
  go_wp2_with fail
  refine (sz_rows za _ 1048576 _ (Hza.out.below B0.out) (by omega) (by omega)).mono ?_
  rintro e w1 ⟨rfl, hb1⟩
  rw [Qza.out]
  have B1 := Lib.hid (B0.out.trans (hb1.mono B0.out.size))
  have S1 := Lib.hid hb1.size
  clear hb1
  go_wp2_with fail
  refine (to_rows za _ _ (Hza.out.below B1.out) (by omega) Fza.out).mono ?_
  rintro e w2 ⟨⟨r, rfl, ho⟩, hb2⟩
  have B2 := Lib.hid (B1.out.trans (hb2.mono B1.out.size))
  have S2 := Lib.hid hb2.size
  have cza_2 := Lib.hid ho
  clear hb2 ho
  go_wp2_with fail
  refine (HS.out _ _ cza_2.out.rw ).mono ?_
  rintro e w3 ⟨⟨r, rfl, ho⟩, hb3⟩
  have B3 := Lib.hid (B2.out.trans (hb3.mono B2.out.size))
  have S3 := Lib.hid hb3.size
  have cza_3 := Lib.hid (cza_2.out.below hb3)
  have W_3 := Lib.hid ho
  clear hb3 cza_2 ho
  clear cza_3
  go_wp2_with fail
  refine (to_rows za _ _ (Hza.out.below B3.out) (by omega) Fza.out).mono ?_
  rintro e w4 ⟨⟨r, rfl, ho⟩, hb4⟩
  have B4 := Lib.hid (B3.out.trans (hb4.mono B3.out.size))
  have S4 := Lib.hid hb4.size
  have W_4 := Lib.hid (W_3.out.below hb4)
  have xza_4 := Lib.hid ho
  clear hb4 W_3 ho
  go_wp2_with fail
  refine (HI.out _ _ xza_4.out.rw ).mono ?_
  rintro e w5 ⟨⟨r, rfl, ho⟩, hb5⟩
  have B5 := Lib.hid (B4.out.trans (hb5.mono B4.out.size))
  have S5 := Lib.hid hb5.size
  have W_5 := Lib.hid (W_4.out.below hb5)
  have xza_5 := Lib.hid (xza_4.out.below hb5)
  have G_5 := Lib.hid ho
  clear hb5 W_4 xza_4 ho
  go_wp2_with fail
  refine (eq_rows R _ _ _ G_5.out.rw W_5.out.rw).mono ?_
  rintro e w6 ⟨rfl, hb6⟩
  have B6 := Lib.hid (B5.out.trans (hb6.mono B5.out.size))
  have S6 := Lib.hid hb6.size
  have W_6 := Lib.hid (W_5.out.below hb6)
  have xza_6 := Lib.hid (xza_5.out.below hb6)
  have G_6 := Lib.hid (G_5.out.below hb6)
  clear hb6 W_5 xza_5 G_5
  go_wp2_with fail
  refine (to_rows za _ _ (Hza.out.below B6.out) (by omega) Fza.out).mono ?_
  rintro e w7 ⟨⟨r, rfl, ho⟩, hb7⟩
  have B7 := Lib.hid (B6.out.trans (hb7.mono B6.out.size))
  have S7 := Lib.hid hb7.size
  have W_7 := Lib.hid (W_6.out.below hb7)
  have xza_7 := Lib.hid (xza_6.out.below hb7)
  have G_7 := Lib.hid (G_6.out.below hb7)
  have tza_7 := Lib.hid ho
  clear hb7 W_6 xza_6 G_6 ho
  go_wp2_with fail
  refine (eq_rows za _ _ _ xza_7.out.rw tza_7.out.rw).mono ?_
  rintro e w8 ⟨rfl, hb8⟩
  have B8 := Lib.hid (B7.out.trans (hb8.mono B7.out.size))
  have S8 := Lib.hid hb8.size
  have W_8 := Lib.hid (W_7.out.below hb8)
  have xza_8 := Lib.hid (xza_7.out.below hb8)
  have G_8 := Lib.hid (G_7.out.below hb8)
  have tza_8 := Lib.hid (tza_7.out.below hb8)
  clear hb8 W_7 xza_7 G_7 tza_7
  clear tza_8
  go_wp2_with fail
  refine (mark_rows za _ _ 1 nza _ _ (Nat.le_refl 1) Kza.out (by omega) xza_8.out).mono ?_
  rintro e w9 ⟨rfl, ho, hb9⟩
  have B9 := Lib.hid (B8.out.trans (hb9.below (by have := S1.out; have := S2.out; have := S3.out; have := S4.out; have := S5.out; have := S6.out; have := S7.out; have := S8.out; omega) (by have := S1.out; have := S2.out; have := S3.out; have := S4.out; have := S5.out; have := S6.out; have := S7.out; have := S8.out; omega)))
  have S9 := Lib.hid hb9.size
  have W_9 := Lib.hid (W_8.out.kept hb9 (by have := S1.out; have := S2.out; have := S3.out; have := S4.out; have := S5.out; have := S6.out; have := S7.out; have := S8.out; omega))
  have G_9 := Lib.hid (G_8.out.kept hb9 (by have := S1.out; have := S2.out; have := S3.out; have := S4.out; have := S5.out; have := S6.out; have := S7.out; have := S8.out; omega))
  have xza_9 := Lib.hid ho
  clear hb9 ho
  clear xza_9
  go_wp2_with fail
  refine (eq_rows R _ _ _ G_9.out.rw W_9.out.rw).mono ?_
  rintro e w10 ⟨rfl, hb10⟩
  have B10 := Lib.hid (B9.out.trans (hb10.mono B9.out.size))
  have S10 := Lib.hid hb10.size
  have W_10 := Lib.hid (W_9.out.below hb10)
  have G_10 := Lib.hid (G_9.out.below hb10)
  clear hb10 W_9 G_9
  have ml := HRL.out
  obtain ⟨mm, hmm⟩ : ∃ q : Nat, 1 + tot R = q := ⟨_, rfl⟩
  have gmm : mm ≤ 4611686018427387904 := by omega
  have KM := Lib.hid hmm
  clear ml hmm
  go_wp2_with fail
  refine (mark_rows R _ _ 1 mm _ _ (Nat.le_refl 1) KM.out (by omega) G_10.out).mono ?_
  rintro e w11 ⟨rfl, ho, hb11⟩
  have B11 := Lib.hid (B10.out.trans (hb11.below (by have := S1.out; have := S2.out; have := S3.out; have := S4.out; have := S5.out; have := S6.out; have := S7.out; have := S8.out; have := S9.out; have := S10.out; omega) (by have := S1.out; have := S2.out; have := S3.out; have := S4.out; have := S5.out; have := S6.out; have := S7.out; have := S8.out; have := S9.out; have := S10.out; omega)))
  have S11 := Lib.hid hb11.size
  have W_11 := Lib.hid (W_10.out.kept hb11 (by have := S1.out; have := S2.out; have := S3.out; have := S4.out; have := S5.out; have := S6.out; have := S7.out; have := S8.out; have := S9.out; have := S10.out; omega))
  have G_11 := Lib.hid ho
  clear hb11 ho
  go_wp2_with fail
  refine (held_rows _ R 1 mm _ (Nat.le_refl 1) KM.out gmm G_11.out.rw).mono ?_
  rintro e w12 ⟨rfl, hb12⟩
  have B12 := Lib.hid (B11.out.trans (hb12.mono B11.out.size))
  have S12 := Lib.hid hb12.size
  have W_12 := Lib.hid (W_11.out.below hb12)
  have G_12 := Lib.hid (G_11.out.below hb12)
  clear hb12 W_11 G_11
  go_wp2_with fail
  refine (to_rows za _ _ (Hza.out.below B12.out) (by omega) Fza.out).mono ?_
  rintro e w13 ⟨⟨r, rfl, ho⟩, hb13⟩
  have B13 := Lib.hid (B12.out.trans (hb13.mono B12.out.size))
  have S13 := Lib.hid hb13.size
  have W_13 := Lib.hid (W_12.out.below hb13)
  have G_13 := Lib.hid (G_12.out.below hb13)
  have dza_13 := Lib.hid ho
  clear hb13 W_12 G_12 ho
  go_wp2_with fail
  refine (HI.out _ _ dza_13.out.rw ).mono ?_
  rintro e w14 ⟨⟨r, rfl, ho⟩, hb14⟩
  have B14 := Lib.hid (B13.out.trans (hb14.mono B13.out.size))
  have S14 := Lib.hid hb14.size
  have W_14 := Lib.hid (W_13.out.below hb14)
  have G_14 := Lib.hid (G_13.out.below hb14)
  have dza_14 := Lib.hid (dza_13.out.below hb14)
  have Z_14 := Lib.hid ho
  clear hb14 W_13 G_13 dza_13 ho
  clear dza_14
  go_wp2_with fail
  refine (eq_rows R _ _ _ Z_14.out.rw W_14.out.rw).mono ?_
  rintro e w15 ⟨rfl, hb15⟩
  have B15 := Lib.hid (B14.out.trans (hb15.mono B14.out.size))
  have S15 := Lib.hid hb15.size
  have W_15 := Lib.hid (W_14.out.below hb15)
  have G_15 := Lib.hid (G_14.out.below hb15)
  have Z_15 := Lib.hid (Z_14.out.below hb15)
  clear hb15 W_14 G_14 Z_14
  clear Z_15
  clear W_15
  go_wp2_with fail
  refine (held_rows _ R 1 mm _ (Nat.le_refl 1) KM.out gmm G_15.out.rw).mono ?_
  rintro e w16 ⟨rfl, hb16⟩
  have B16 := Lib.hid (B15.out.trans (hb16.mono B15.out.size))
  have S16 := Lib.hid hb16.size
  have G_16 := Lib.hid (G_15.out.below hb16)
  clear hb16 G_15
  go_wp2_with fail
  go_ret
  exact ⟨rfl, B16.out⟩

theorem walk (za : List (List Int)) (vza : Value) (w : World) (hza : Rw w vza za)    :
    Calls Try.prog 10 #[vza] w fun e w' => e = .returned (.bool true) ∧ Below w.heap.size w w' := by
  by_cases lza : ((za.length + tot za) : Int) ≤ 1048576
  · exact walk_short za vza w hza  lza 
  · exact walk_long0 za vza w hza  lza

theorem own : ownKnob Try.prog.godebug = none := by kernel_rfl
theorem laidOut : laidOutB Try.prog = true := by kernel_rfl


set_option maxRecDepth 100000 in
set_option linter.unusedVariables false in
theorem contract (H : Type) (enc : TypeId × Value → H) (W : World) (base : Nat) (args : Array Value) (ds gs : List (DataW H)) (before : List MemPlace)
    (hval : ∀ (j : Nat) t v, Try.f10.params[j]? = some t → args[j]? = some v → Value.okWide Try.prog W .any base t v)
    (hW : DataW.Whole enc Try.prog Try.f10.params.toList Rows.fnExactPolygonPointsSpec.vars false W args.toList ds gs before) :
    Calls Try.prog 10 args W fun e W' => ∃ v, e = .returned v ∧ Rows.fnExactPolygonPointsSpec.post enc Try.prog Try.f10 false true false false W args v W' := by
  have hW' := hW
  obtain ⟨p, q, hA0, hV, rfl, hfz, hnd⟩ := hW
  have hA : DataW.TrodAll enc Try.prog W 0 (fun _ => true) true Try.f10.params.toList args.toList ds p := hA0
  rw [Try.params10] at hA hval
  obtain ⟨v0, vs0, d0, ds0, p0, q0, hargs, rfl, rfl, h0, r0⟩ := trodAll_cons hA
  obtain ⟨rfl, rfl, rfl⟩ := trodAll_nil r0
  obtain rfl : args = #[v0] := by cases args; simp_all
  obtain ⟨zaA, zaL, zaC, rfl⟩ := okWide_slice Try.underlying28 (hval 0 28 v0 rfl rfl)
  obtain ⟨za, wza⟩ : ∃ zss : List (List Int), zss.length = zaL ∧ Rw W (.slice zaA zaL zaC) zss ∧ ∀ zs ∈ zss, ∀ z ∈ zs, (Lit.int .i64 z).wf = true := by
    obtain ⟨fuel, hf⟩ := h0
    exact rows_came Try.underlying28 Try.underlying24 Try.underlying3 (by kernel_rfl) (by kernel_rfl) hf
  refine (walk za _ W wza.2.1   ).mono fun e W' ⟨he, hb⟩ => ?_
  subst he
  exact ⟨_, rfl, law_post laidOut (by kernel_rfl) rfl Try.underlying4 rfl hW' (fun ds' h => by match ds', h with | [d0], _ => rfl) hb⟩


set_option maxRecDepth 100000 in
theorem lifted (os : Os) (started : os.Started) (H : Type) (enc : TypeId × Value → H) :
    ReturnsInHanded {} Try.checked os 10 .any (Rows.fnExactPolygonPointsSpec.pre6 enc Try.prog Try.f10 Rows.fnExactPolygonPointsRow.domain false) (Rows.fnExactPolygonPointsSpec.post enc Try.prog Try.f10 false true false false) := by
  refine returnsInHanded_of_change (C := Try.checked) own started (by kernel_rfl) Try.func10
    (ChangeSpec.witness6 (enc := enc) (C := Try.checked) false ⟨#[], #[.slice none 0 0], []⟩ 8 (by kernel_rfl) (by kernel_rfl) (by kernel_rfl) (by kernel_rfl)) ?_
  intro W base args ds gs before hval hW _ _
  exact contract H enc W base args ds gs before hval hW

theorem said : Rows.FnExactPolygonPointsSaid :=
  OpenClaim.holds_of_wide 10 Try.f10 rfl rfl rfl rfl rfl rfl rfl ⟨rfl, rfl, rfl, rfl, rfl⟩ rfl rfl rfl rfl rfl (by kernel_rfl) Try.func10 (by kernel_rfl)
    (of_decide_eq_true (by kernel_rfl)) (by unfold Func.isWrapper; first | (rw [if_pos (by decide +kernel)]; kernel_rfl) | (rw [if_neg (by decide +kernel)]; exact ⟨rfl, rfl⟩))
    (fun os started H enc _ => lifted os started H enc)
end Go.Proofs.Ytoekgcafhcamjaa.fnExactPolygonPoints
