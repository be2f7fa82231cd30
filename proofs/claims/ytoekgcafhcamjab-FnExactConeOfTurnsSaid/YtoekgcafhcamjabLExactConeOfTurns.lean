/- FnExactConeOfTurns holds for every input. Conditions: none. -/
import Derived.Test.YtoekgcafhcamjabMax
import Derived.Test.YtoekgcafhcamjabCnV
import Derived.Test.YtoekgcafhcamjabMak
import Derived.Test.YtoekgcafhcamjabLaw
import Derived.Test.YtoekgcafhcamjabRows
namespace Go.Proofs.Ytoekgcafhcamjab.fnExactConeOfTurns
open Go.ChangeShapes Go.WideShapes Go.ChangeAt Go.RowKit Go.Lib
open Go.ChangeMaps (open_string shut_string)
set_option linter.unusedVariables false in
set_option maxRecDepth 100000 in
set_option maxHeartbeats 400000 in
theorem walk_long0 (za : List Int) (vza : Value) (w : World) (hza : Sl w vza (intVals za))  (hl : 1048576 < za.length) :
    Calls Try.prog 7 #[vza] w fun e w' => e = .returned (.bool true) ∧ Below w.heap.size w w' := by
  have Hza := Lib.hid hza
  obtain ⟨Aza, Cza, rfl, Mza, _⟩ := hza.shape
  rw [intVals_len] at Mza Hza ⊢
  unfold maxLen at Mza
  clear hza
  have B0 := Lib.hid (Below.refl w.heap.size w)
  go_enter Try.func7, Try.ntmps7
  go_wp2_with fail
  go_ret
  exact ⟨rfl, B0.out⟩

set_option linter.unusedVariables false in
set_option maxRecDepth 100000 in
set_option maxHeartbeats 3200000 in
theorem walk_short (za : List Int) (vza : Value) (w : World) (hza : Sl w vza (intVals za))  (lza : za.length ≤ 1048576)  :
    Calls Try.prog 7 #[vza] w fun e w' => e = .returned (.bool true) ∧ Below w.heap.size w w' := by
  have HS := Lib.hid (fun (xza : Value) (w : World) (yza : Sl w xza (intVals za))  => s_conet za xza w yza)
  have HI := Lib.hid (fun (xza : Value) (w : World) (yza : Sl w xza (intVals za))  => i_conet za xza w yza)
  have HRL := Lib.hid (coneTR_len za)
  generalize coneTR za = R at HS HI HRL
  have Hza := Lib.hid hza
  obtain ⟨Aza, Cza, rfl, Mza, _⟩ := hza.shape
  rw [intVals_len] at Mza Hza ⊢
  unfold maxLen at Mza
  clear hza
  obtain ⟨nza, hnza⟩ : ∃ q : Nat, 1 + za.length = q := ⟨_, rfl⟩
  have kza : 1 ≤ nza := by omega
  have Kza := Lib.hid hnza
  have gza : nza ≤ 4194304 := by omega
  clear hnza
  have B0 := Lib.hid (Below.refl w.heap.size w)
  go_enter Try.func7, Try.ntmps7
  go_wp2_with fail
  refine (to_int za _ _ (Hza.out.below B0.out) lza).mono ?_
  rintro e w1 ⟨⟨r, rfl, ho⟩, hb1⟩
  have B1 := Lib.hid (B0.out.trans (hb1.mono B0.out.size))
  have S1 := Lib.hid hb1.size
  have cza_1 := Lib.hid (OwnV.of_owns ho)
  clear hb1 ho
  go_wp2_with fail
  refine (HS.out _ _ cza_1.out.sl ).mono ?_
  rintro e w2 ⟨⟨_, rfl, x, y, rfl, ho⟩, hb2⟩
  obtain ⟨xaW, xcW, xbW, xdW, rfl, rfl⟩ := ho.shape
  have B2 := Lib.hid (B1.out.trans (hb2.mono B1.out.size))
  have S2 := Lib.hid hb2.size
  have cza_2 := Lib.hid (cza_1.out.below hb2)
  have W_2 := Lib.hid ho
  clear hb2 cza_1 ho
  clear cza_2
  have hb3 := below1 w2 (.cells #[.slice xaW R.1.1.length xcW, .slice xbW R.1.2.length xdW] 27)
  have B3 := Lib.hid (B2.out.trans (hb3.mono B2.out.size))
  have S3 := Lib.hid (alloc_lt w2 (.cells #[.slice xaW R.1.1.length xcW, .slice xbW R.1.2.length xdW] 27))
  have W_3 := Lib.hid (W_2.out.below hb3)
  have BW_3 := Lib.hid (Bk.new w2 #[.slice xaW R.1.1.length xcW, .slice xbW R.1.2.length xdW] 27)
  clear hb3 W_2
  go_wp2_with fail
  refine (to_int za _ _ (Hza.out.below B3.out) lza).mono ?_
  rintro e w4 ⟨⟨r, rfl, ho⟩, hb4⟩
  have B4 := Lib.hid (B3.out.trans (hb4.mono B3.out.size))
  have S4 := Lib.hid hb4.size
  have W_4 := Lib.hid (W_3.out.below hb4)
  have BW_4 := Lib.hid (BW_3.out.below hb4)
  have xza_4 := Lib.hid (OwnV.of_owns ho)
  clear hb4 W_3 BW_3 ho
  go_wp2_with fail
  refine (HI.out _ _ xza_4.out.sl ).mono ?_
  rintro e w5 ⟨⟨_, rfl, x, y, rfl, ho⟩, hb5⟩
  obtain ⟨xaG, xcG, xbG, xdG, rfl, rfl⟩ := ho.shape
  have B5 := Lib.hid (B4.out.trans (hb5.mono B4.out.size))
  have S5 := Lib.hid hb5.size
  have W_5 := Lib.hid (W_4.out.below hb5)
  have BW_5 := Lib.hid (BW_4.out.below hb5)
  have xza_5 := Lib.hid (xza_4.out.below hb5)
  have G_5 := Lib.hid ho
  clear hb5 W_4 BW_4 xza_4 ho
  have hb6 := below1 w5 (.cells #[.slice xaG R.1.1.length xcG, .slice xbG R.1.2.length xdG] 27)
  have B6 := Lib.hid (B5.out.trans (hb6.mono B5.out.size))
  have S6 := Lib.hid (alloc_lt w5 (.cells #[.slice xaG R.1.1.length xcG, .slice xbG R.1.2.length xdG] 27))
  have W_6 := Lib.hid (W_5.out.below hb6)
  have BW_6 := Lib.hid (BW_5.out.below hb6)
  have xza_6 := Lib.hid (xza_5.out.below hb6)
  have G_6 := Lib.hid (G_5.out.below hb6)
  have BG_6 := Lib.hid (Bk.new w5 #[.slice xaG R.1.1.length xcG, .slice xbG R.1.2.length xdG] 27)
  clear hb6 W_5 BW_5 xza_5 G_5
  obtain ⟨⟨lBG0, lBG1⟩, -⟩ := BG_6.out.two
  obtain ⟨⟨lBW0, lBW1⟩, -⟩ := BW_6.out.two
  go_wp2_with fail
  refine (eq_cone R.1 _ _ _ G_6.out.cv W_6.out.cv).mono ?_
  rintro e w7 ⟨rfl, hb7⟩
  have B7 := Lib.hid (B6.out.trans (hb7.mono B6.out.size))
  have S7 := Lib.hid hb7.size
  have W_7 := Lib.hid (W_6.out.below hb7)
  have BW_7 := Lib.hid (BW_6.out.below hb7)
  have xza_7 := Lib.hid (xza_6.out.below hb7)
  have G_7 := Lib.hid (G_6.out.below hb7)
  have BG_7 := Lib.hid (BG_6.out.below hb7)
  clear hb7 W_6 BW_6 xza_6 G_6 BG_6
  clear lBG0 lBG1 lBW0 lBW1
  go_wp2_with fail
  refine (to_int za _ _ (Hza.out.below B7.out) lza).mono ?_
  rintro e w8 ⟨⟨r, rfl, ho⟩, hb8⟩
  have B8 := Lib.hid (B7.out.trans (hb8.mono B7.out.size))
  have S8 := Lib.hid hb8.size
  have W_8 := Lib.hid (W_7.out.below hb8)
  have BW_8 := Lib.hid (BW_7.out.below hb8)
  have xza_8 := Lib.hid (xza_7.out.below hb8)
  have G_8 := Lib.hid (G_7.out.below hb8)
  have BG_8 := Lib.hid (BG_7.out.below hb8)
  have tza_8 := Lib.hid (OwnV.of_owns ho)
  clear hb8 W_7 BW_7 xza_7 G_7 BG_7 ho
  go_wp2_with fail
  refine (eq_int za _ _ _ xza_8.out.sl tza_8.out.sl).mono ?_
  rintro e w9 ⟨rfl, hb9⟩
  have B9 := Lib.hid (B8.out.trans (hb9.mono B8.out.size))
  have S9 := Lib.hid hb9.size
  have W_9 := Lib.hid (W_8.out.below hb9)
  have BW_9 := Lib.hid (BW_8.out.below hb9)
  have xza_9 := Lib.hid (xza_8.out.below hb9)
  have G_9 := Lib.hid (G_8.out.below hb9)
  have BG_9 := Lib.hid (BG_8.out.below hb9)
  have tza_9 := Lib.hid (tza_8.out.below hb9)
  clear hb9 W_8 BW_8 xza_8 G_8 BG_8 tza_8
  clear tza_9
  go_wp2_with fail
  refine (mark_int za _ _ 1 nza _ _ (Nat.le_refl 1) Kza.out (by omega) xza_9.out).mono ?_
  rintro e w10 ⟨rfl, ho, hb10⟩
  have B10 := Lib.hid (B9.out.trans (hb10.below (by have := S1.out; have := S2.out; have := S3.out; have := S4.out; have := S5.out; have := S6.out; have := S7.out; have := S8.out; have := S9.out; omega) (by have := S1.out; have := S2.out; have := S3.out; have := S4.out; have := S5.out; have := S6.out; have := S7.out; have := S8.out; have := S9.out; omega)))
  have S10 := Lib.hid hb10.size
  have W_10 := Lib.hid (W_9.out.kept hb10 (by have := S1.out; have := S2.out; have := S3.out; have := S4.out; have := S5.out; have := S6.out; have := S7.out; have := S8.out; have := S9.out; omega))
  have BW_10 := Lib.hid (BW_9.out.kept hb10 (by have := S1.out; have := S2.out; have := S3.out; have := S4.out; have := S5.out; have := S6.out; have := S7.out; have := S8.out; have := S9.out; omega))
  have G_10 := Lib.hid (G_9.out.kept hb10 (by have := S1.out; have := S2.out; have := S3.out; have := S4.out; have := S5.out; have := S6.out; have := S7.out; have := S8.out; have := S9.out; omega))
  have BG_10 := Lib.hid (BG_9.out.kept hb10 (by have := S1.out; have := S2.out; have := S3.out; have := S4.out; have := S5.out; have := S6.out; have := S7.out; have := S8.out; have := S9.out; omega))
  have xza_10 := Lib.hid ho
  clear hb10 ho
  clear xza_10
  obtain ⟨⟨lBG0, lBG1⟩, -⟩ := BG_10.out.two
  obtain ⟨⟨lBW0, lBW1⟩, -⟩ := BW_10.out.two
  go_wp2_with fail
  refine (eq_cone R.1 _ _ _ G_10.out.cv W_10.out.cv).mono ?_
  rintro e w11 ⟨rfl, hb11⟩
  have B11 := Lib.hid (B10.out.trans (hb11.mono B10.out.size))
  have S11 := Lib.hid hb11.size
  have W_11 := Lib.hid (W_10.out.below hb11)
  have BW_11 := Lib.hid (BW_10.out.below hb11)
  have G_11 := Lib.hid (G_10.out.below hb11)
  have BG_11 := Lib.hid (BG_10.out.below hb11)
  clear hb11 W_10 BW_10 G_10 BG_10
  clear lBG0 lBG1 lBW0 lBW1
  have ml := HRL.out
  obtain ⟨mm, hmm⟩ : ∃ q : Nat, 1 + (R.1.1.length + R.1.2.length) = q := ⟨_, rfl⟩
  have gmm : mm ≤ 4611686018427387904 := by omega
  have KM := Lib.hid hmm
  clear ml hmm
  obtain ⟨⟨lBG0, lBG1⟩, -⟩ := BG_11.out.two
  go_wp2_with fail
  refine (mark_cone R.1 _ _ 1 mm _ _ _ (Nat.le_refl 1) KM.out (by omega) G_11.out).mono ?_
  rintro e w12 ⟨rfl, ho, hb12⟩
  have B12 := Lib.hid (B11.out.trans (hb12.below (by have := S1.out; have := S2.out; have := S3.out; have := S4.out; have := S5.out; have := S6.out; have := S7.out; have := S8.out; have := S9.out; have := S10.out; have := S11.out; omega) (by have := S1.out; have := S2.out; have := S3.out; have := S4.out; have := S5.out; have := S6.out; have := S7.out; have := S8.out; have := S9.out; have := S10.out; have := S11.out; omega)))
  have S12 := Lib.hid hb12.size
  have W_12 := Lib.hid (W_11.out.kept hb12 (by have := S1.out; have := S2.out; have := S3.out; have := S4.out; have := S5.out; have := S6.out; have := S7.out; have := S8.out; have := S9.out; have := S10.out; have := S11.out; omega))
  have BW_12 := Lib.hid (BW_11.out.kept hb12 (by have := S1.out; have := S2.out; have := S3.out; have := S4.out; have := S5.out; have := S6.out; have := S7.out; have := S8.out; have := S9.out; have := S10.out; have := S11.out; omega))
  have BG_12 := Lib.hid (BG_11.out.kept hb12 (by have := S1.out; have := S2.out; have := S3.out; have := S4.out; have := S5.out; have := S6.out; have := S7.out; have := S8.out; have := S9.out; have := S10.out; have := S11.out; omega))
  have G_12 := Lib.hid ho
  clear hb12 ho
  clear lBG0 lBG1
  obtain ⟨⟨lBG0, lBG1⟩, -⟩ := BG_12.out.two
  go_wp2_with fail
  refine (held_cone _ R.1 1 mm _ (Nat.le_refl 1) KM.out gmm G_12.out.cv).mono ?_
  rintro e w13 ⟨rfl, hb13⟩
  have B13 := Lib.hid (B12.out.trans (hb13.mono B12.out.size))
  have S13 := Lib.hid hb13.size
  have W_13 := Lib.hid (W_12.out.below hb13)
  have BW_13 := Lib.hid (BW_12.out.below hb13)
  have G_13 := Lib.hid (G_12.out.below hb13)
  have BG_13 := Lib.hid (BG_12.out.below hb13)
  clear hb13 W_12 BW_12 G_12 BG_12
  clear lBG0 lBG1
  go_wp2_with fail
  refine (to_int za _ _ (Hza.out.below B13.out) lza).mono ?_
  rintro e w14 ⟨⟨r, rfl, ho⟩, hb14⟩
  have B14 := Lib.hid (B13.out.trans (hb14.mono B13.out.size))
  have S14 := Lib.hid hb14.size
  have W_14 := Lib.hid (W_13.out.below hb14)
  have BW_14 := Lib.hid (BW_13.out.below hb14)
  have G_14 := Lib.hid (G_13.out.below hb14)
  have BG_14 := Lib.hid (BG_13.out.below hb14)
  have dza_14 := Lib.hid (OwnV.of_owns ho)
  clear hb14 W_13 BW_13 G_13 BG_13 ho
  go_wp2_with fail
  refine (HI.out _ _ dza_14.out.sl ).mono ?_
  rintro e w15 ⟨⟨_, rfl, x, y, rfl, ho⟩, hb15⟩
  obtain ⟨xaZ, xcZ, xbZ, xdZ, rfl, rfl⟩ := ho.shape
  have B15 := Lib.hid (B14.out.trans (hb15.mono B14.out.size))
  have S15 := Lib.hid hb15.size
  have W_15 := Lib.hid (W_14.out.below hb15)
  have BW_15 := Lib.hid (BW_14.out.below hb15)
  have G_15 := Lib.hid (G_14.out.below hb15)
  have BG_15 := Lib.hid (BG_14.out.below hb15)
  have dza_15 := Lib.hid (dza_14.out.below hb15)
  have Z_15 := Lib.hid ho
  clear hb15 W_14 BW_14 G_14 BG_14 dza_14 ho
  clear dza_15
  have hb16 := below1 w15 (.cells #[.slice xaZ R.1.1.length xcZ, .slice xbZ R.1.2.length xdZ] 27)
  have B16 := Lib.hid (B15.out.trans (hb16.mono B15.out.size))
  have S16 := Lib.hid (alloc_lt w15 (.cells #[.slice xaZ R.1.1.length xcZ, .slice xbZ R.1.2.length xdZ] 27))
  have W_16 := Lib.hid (W_15.out.below hb16)
  have BW_16 := Lib.hid (BW_15.out.below hb16)
  have G_16 := Lib.hid (G_15.out.below hb16)
  have BG_16 := Lib.hid (BG_15.out.below hb16)
  have Z_16 := Lib.hid (Z_15.out.below hb16)
  have BZ_16 := Lib.hid (Bk.new w15 #[.slice xaZ R.1.1.length xcZ, .slice xbZ R.1.2.length xdZ] 27)
  clear hb16 W_15 BW_15 G_15 BG_15 Z_15
  obtain ⟨⟨lBZ0, lBZ1⟩, -⟩ := BZ_16.out.two
  obtain ⟨⟨lBW0, lBW1⟩, -⟩ := BW_16.out.two
  go_wp2_with fail
  refine (eq_cone R.1 _ _ _ Z_16.out.cv W_16.out.cv).mono ?_
  rintro e w17 ⟨rfl, hb17⟩
  have B17 := Lib.hid (B16.out.trans (hb17.mono B16.out.size))
  have S17 := Lib.hid hb17.size
  have W_17 := Lib.hid (W_16.out.below hb17)
  have BW_17 := Lib.hid (BW_16.out.below hb17)
  have G_17 := Lib.hid (G_16.out.below hb17)
  have BG_17 := Lib.hid (BG_16.out.below hb17)
  have Z_17 := Lib.hid (Z_16.out.below hb17)
  have BZ_17 := Lib.hid (BZ_16.out.below hb17)
  clear hb17 W_16 BW_16 G_16 BG_16 Z_16 BZ_16
  clear lBZ0 lBZ1 lBW0 lBW1
  clear Z_17
  clear W_17
  clear BZ_17
  clear BW_17
  obtain ⟨⟨lBG0, lBG1⟩, -⟩ := BG_17.out.two
  go_wp2_with fail
  refine (held_cone _ R.1 1 mm _ (Nat.le_refl 1) KM.out gmm G_17.out.cv).mono ?_
  rintro e w18 ⟨rfl, hb18⟩
  have B18 := Lib.hid (B17.out.trans (hb18.mono B17.out.size))
  have S18 := Lib.hid hb18.size
  have G_18 := Lib.hid (G_17.out.below hb18)
  have BG_18 := Lib.hid (BG_17.out.below hb18)
  clear hb18 G_17 BG_17
  clear lBG0 lBG1
  go_wp2_with fail
  go_ret
  exact ⟨rfl, B18.out⟩

theorem walk (za : List Int) (vza : Value) (w : World) (hza : Sl w vza (intVals za))    :
    Calls Try.prog 7 #[vza] w fun e w' => e = .returned (.bool true) ∧ Below w.heap.size w w' := by
  by_cases lza : za.length ≤ 1048576
  · exact walk_short za vza w hza  lza 
  · exact walk_long0 za vza w hza  (by omega)

theorem own : ownKnob Try.prog.godebug = none := by kernel_rfl
theorem laidOut : laidOutB Try.prog = true := by kernel_rfl


set_option maxRecDepth 100000 in
set_option linter.unusedVariables false in
theorem contract (H : Type) (enc : TypeId × Value → H) (W : World) (base : Nat) (args : Array Value) (ds gs : List (DataW H)) (before : List MemPlace)
    (hval : ∀ (j : Nat) t v, Try.f7.params[j]? = some t → args[j]? = some v → Value.okWide Try.prog W .any base t v)
    (hW : DataW.Whole enc Try.prog Try.f7.params.toList Rows.fnExactConeOfTurnsSpec.vars false W args.toList ds gs before) :
    Calls Try.prog 7 args W fun e W' => ∃ v, e = .returned v ∧ Rows.fnExactConeOfTurnsSpec.post enc Try.prog Try.f7 false true false false W args v W' := by
  have hW' := hW
  obtain ⟨p, q, hA0, hV, rfl, hfz, hnd⟩ := hW
  have hA : DataW.TrodAll enc Try.prog W 0 (fun _ => true) true Try.f7.params.toList args.toList ds p := hA0
  rw [Try.params7] at hA hval
  obtain ⟨v0, vs0, d0, ds0, p0, q0, hargs, rfl, rfl, h0, r0⟩ := trodAll_cons hA
  obtain ⟨rfl, rfl, rfl⟩ := trodAll_nil r0
  obtain rfl : args = #[v0] := by cases args; simp_all
  obtain ⟨zaA, zaL, zaC, rfl⟩ := okWide_slice Try.underlying22 (hval 0 22 v0 rfl rfl)
  obtain ⟨za, wza⟩ : ∃ zs : List Int, zs.length = zaL ∧ Sl W (.slice zaA zaL zaC) (numVals .i64 zs) ∧ ∀ z ∈ zs, (Lit.int .i64 z).wf = true := by
    obtain ⟨fuel, hf⟩ := h0
    exact nums_came Try.underlying22 Try.underlying3 (by kernel_rfl) hf
  refine (walk za _ W wza.2.1   ).mono fun e W' ⟨he, hb⟩ => ?_
  subst he
  exact ⟨_, rfl, law_post laidOut (by kernel_rfl) rfl Try.underlying4 rfl hW' (fun ds' h => by match ds', h with | [d0], _ => rfl) hb⟩


set_option maxRecDepth 100000 in
theorem lifted (os : Os) (started : os.Started) (H : Type) (enc : TypeId × Value → H) :
    ReturnsInHanded {} Try.checked os 7 .any (Rows.fnExactConeOfTurnsSpec.pre6 enc Try.prog Try.f7 Rows.fnExactConeOfTurnsRow.domain false) (Rows.fnExactConeOfTurnsSpec.post enc Try.prog Try.f7 false true false false) := by
  refine returnsInHanded_of_change (C := Try.checked) own started (by kernel_rfl) Try.func7
    (ChangeSpec.witness6 (enc := enc) (C := Try.checked) false ⟨#[], #[.slice none 0 0], []⟩ 8 (by kernel_rfl) (by kernel_rfl) (by kernel_rfl) (by kernel_rfl)) ?_
  intro W base args ds gs before hval hW _ _
  exact contract H enc W base args ds gs before hval hW

theorem said : Rows.FnExactConeOfTurnsSaid :=
  OpenClaim.holds_of_wide 7 Try.f7 rfl rfl rfl rfl rfl rfl rfl ⟨rfl, rfl, rfl, rfl, rfl⟩ rfl rfl rfl rfl rfl (by kernel_rfl) Try.func7 (by kernel_rfl)
    (of_decide_eq_true (by kernel_rfl)) (by unfold Func.isWrapper; first | (rw [if_pos (by decide +kernel)]; kernel_rfl) | (rw [if_neg (by decide +kernel)]; exact ⟨rfl, rfl⟩))
    (fun os started H enc _ => lifted os started H enc)
end Go.Proofs.Ytoekgcafhcamjab.fnExactConeOfTurns
