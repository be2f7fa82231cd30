/- FnExactIsHalf holds for every input. Conditions: none. -/
import Derived.Test.YtflkalgofkpdbaaRegS
import Derived.Test.YtflkalgofkpdbaaRegI
import Derived.Test.YtflkalgofkpdbaaHfCame
import Derived.Test.YtflkalgofkpdbaaHfSz
import Derived.Test.YtflkalgofkpdbaaHfEq
import Derived.Test.YtflkalgofkpdbaaHfMark
import Derived.Test.YtflkalgofkpdbaaIntTo
import Derived.Test.YtflkalgofkpdbaaIntEq
import Derived.Test.YtflkalgofkpdbaaIntMark
import Derived.Test.YtflkalgofkpdbaaLaw
import Derived.Test.YtflkalgofkpdbaaRows
namespace Go.Proofs.Ytflkalgofkpdbaa.fnExactIsHalf
open Go.ChangeShapes Go.WideShapes Go.ChangeAt Go.RowKit Go.Lib
open Go.ChangeMaps (open_string shut_string)
set_option linter.unusedVariables false in
set_option maxRecDepth 100000 in
set_option maxHeartbeats 400000 in
theorem walk_long0 (za : Int) (zb : Hf) (vzb : Value) (w : World) (hzb : Hv w vzb zb)  (hl : ¬ (((zb.1.length) : Nat) : Int) ≤ 1048576) :
    Calls Try.prog 3 #[.int .i64 za, vzb] w fun e w' => e = .returned (.bool true) ∧ Below w.heap.size w w' := by
  have Hzb := Lib.hid hzb
  obtain ⟨Uzb, rfl, _⟩ := hzb
  have Qzb := Lib.hid (show szI 1048576 zb.1.length = -1 from szI_small (by omega))
  have B0 := Lib.hid (Below.refl w.heap.size w)
  have hb1 := below1 w (.cells #[Uzb, .int .i64 zb.2] 24)
  have B1 := Lib.hid (B0.out.trans (hb1.mono B0.out.size))
  have S1 := Lib.hid (alloc_lt w (.cells #[Uzb, .int .i64 zb.2] 24))
  have Pzb_1 := Lib.hid (Bk.new w #[Uzb, .int .i64 zb.2] 24)
  clear hb1
  go_enter Try.func3, Try.ntmps3
  obtain ⟨⟨lPzb0, lPzb1⟩, -⟩ := Pzb_1.out.two
  go_wp2_with fail
  refine (sz_half zb _ 1048576 _ (Hzb.out.below B1.out) (by omega) (by omega)).mono ?_
  rintro e w2 ⟨rfl, hb2⟩
  rw [Qzb.out]
  have B2 := Lib.hid (B1.out.trans (hb2.mono B1.out.size))
  have S2 := Lib.hid hb2.size
  have Pzb_2 := Lib.hid (Pzb_1.out.below hb2)
  clear hb2 Pzb_1
  clear lPzb0 lPzb1
  go_wp2_with fail
  go_ret
  exact ⟨rfl, B2.out⟩

set_option linter.unusedVariables false in
set_option maxRecDepth 100000 in
set_option maxHeartbeats 3200000 in
theorem walk_short (za : Int) (zb : Hf) (vzb : Value) (w : World) (hzb : Hv w vzb zb) (bza : -9223372036854775808 ≤ za ∧ za ≤ 9223372036854775807) (lzb : (((zb.1.length) : Nat) : Int) ≤ 1048576)  :
    Calls Try.prog 3 #[.int .i64 za, vzb] w fun e w' => e = .returned (.bool true) ∧ Below w.heap.size w w' := by
  have HS := Lib.hid (fun (xzb : Value) (w : World) (yzb : Hv w xzb zb)  => s_ishalf za zb xzb w yzb)
  have HI := Lib.hid (fun (xzb : Value) (w : World) (yzb : Hv w xzb zb)  => i_ishalf za zb xzb w yzb)
  generalize halfOk za zb = R at HS HI
  have Hzb := Lib.hid hzb
  obtain ⟨Uzb, rfl, _⟩ := hzb
  obtain ⟨Lzb, hLzb⟩ : ∃ q : Int, 1048576 - zb.1.length = q := ⟨_, rfl⟩
  have g1zb : 0 ≤ Lzb := by omega
  have g2zb : Lzb ≤ 1048576 := by omega
  have Qzb := Lib.hid (show szI 1048576 zb.1.length = Lzb by rw [szI_fits (by omega), hLzb])
  clear hLzb
  have ezb : zb.1.length ≤ 1048576 := by omega
  have B0 := Lib.hid (Below.refl w.heap.size w)
  have hb1 := below1 w (.cells #[Uzb, .int .i64 zb.2] 24)
  have B1 := Lib.hid (B0.out.trans (hb1.mono B0.out.size))
  have S1 := Lib.hid (alloc_lt w (.cells #[Uzb, .int .i64 zb.2] 24))
  have Pzb_1 := Lib.hid (Bk.new w #[Uzb, .int .i64 zb.2] 24)
  clear hb1
  go_enter Try.func3, Try.ntmps3
  obtain ⟨⟨lPzb0, lPzb1⟩, -⟩ := Pzb_1.out.two
  go_wp2_with fail
  refine (sz_half zb _ 1048576 _ (Hzb.out.below B1.out) (by omega) (by omega)).mono ?_
  rintro e w2 ⟨rfl, hb2⟩
  rw [Qzb.out]
  have B2 := Lib.hid (B1.out.trans (hb2.mono B1.out.size))
  have S2 := Lib.hid hb2.size
  have Pzb_2 := Lib.hid (Pzb_1.out.below hb2)
  clear hb2 Pzb_1
  clear lPzb0 lPzb1
  obtain ⟨⟨lPzb0, lPzb1⟩, -⟩ := Pzb_2.out.two
  go_wp2_with fail
  refine (to_half zb _ _ (Hzb.out.below B2.out) ezb).mono ?_
  rintro e w3 ⟨⟨_, rfl, x, rfl, ho⟩, hb3⟩
  obtain ⟨xaczb, xcczb, rfl, _⟩ := ho.shape1
  clear lPzb0 lPzb1
  have B3 := Lib.hid (B2.out.trans (hb3.mono B2.out.size))
  have S3 := Lib.hid hb3.size
  have Pzb_3 := Lib.hid (Pzb_2.out.below hb3)
  have czb_3 := Lib.hid ho
  clear hb3 Pzb_2 ho
  go_wp2_with fail
  refine (HS.out _ _ ⟨_, rfl, czb_3.out.sl⟩ ).mono ?_
  rintro e w4 ⟨rfl, hb4⟩
  have B4 := Lib.hid (B3.out.trans (hb4.mono B3.out.size))
  have S4 := Lib.hid hb4.size
  have Pzb_4 := Lib.hid (Pzb_3.out.below hb4)
  have czb_4 := Lib.hid (czb_3.out.below hb4)
  clear hb4 Pzb_3 czb_3
  clear czb_4
  obtain ⟨⟨lPzb0, lPzb1⟩, -⟩ := Pzb_4.out.two
  go_wp2_with fail
  refine (to_half zb _ _ (Hzb.out.below B4.out) ezb).mono ?_
  rintro e w5 ⟨⟨_, rfl, x, rfl, ho⟩, hb5⟩
  obtain ⟨xaxzb, xcxzb, rfl, _⟩ := ho.shape1
  clear lPzb0 lPzb1
  have B5 := Lib.hid (B4.out.trans (hb5.mono B4.out.size))
  have S5 := Lib.hid hb5.size
  have Pzb_5 := Lib.hid (Pzb_4.out.below hb5)
  have xzb_5 := Lib.hid ho
  clear hb5 Pzb_4 ho
  have hb6 := below1 w5 (.cells #[.slice xaxzb (intVals zb.1).length xcxzb, .int .i64 zb.2] 27)
  have B6 := Lib.hid (B5.out.trans (hb6.mono B5.out.size))
  have S6 := Lib.hid (alloc_lt w5 (.cells #[.slice xaxzb (intVals zb.1).length xcxzb, .int .i64 zb.2] 27))
  have Pzb_6 := Lib.hid (Pzb_5.out.below hb6)
  have xzb_6 := Lib.hid (xzb_5.out.below hb6)
  have Bxzb_6 := Lib.hid (Bk.new w5 #[.slice xaxzb (intVals zb.1).length xcxzb, .int .i64 zb.2] 27)
  clear hb6 Pzb_5 xzb_5
  obtain ⟨⟨lBxzb0, lBxzb1⟩, -⟩ := Bxzb_6.out.two
  go_wp2_with fail
  refine (HI.out _ _ ⟨_, rfl, xzb_6.out.sl⟩ ).mono ?_
  rintro e w7 ⟨rfl, hb7⟩
  have B7 := Lib.hid (B6.out.trans (hb7.mono B6.out.size))
  have S7 := Lib.hid hb7.size
  have Pzb_7 := Lib.hid (Pzb_6.out.below hb7)
  have xzb_7 := Lib.hid (xzb_6.out.below hb7)
  have Bxzb_7 := Lib.hid (Bxzb_6.out.below hb7)
  clear hb7 Pzb_6 xzb_6 Bxzb_6
  clear lBxzb0 lBxzb1
  have DX := Lib.hid Bxzb_7.out.two.1
  have DP := Lib.hid Pzb_7.out.two.1
  have LX := Lib.hid Bxzb_7.out.lt
  have LP := Lib.hid Pzb_7.out.lt
  have RX := Lib.hid (show Hv w7 (.agg #[.slice xaxzb (intVals zb.1).length xcxzb, .int .i64 zb.2]) zb from ⟨_, rfl, xzb_7.out.sl⟩)
  obtain ⟨lx0, lx1⟩ := DX.out
  obtain ⟨lp0, lp1⟩ := DP.out
  go_wp2_with fail
  go_region_held3 (fun w' => w'.cell? ⟨w5.heap.size, 0, none⟩ = some (.slice xaxzb (intVals zb.1).length xcxzb) ∧ w'.cell? ⟨w5.heap.size, 1, none⟩ = some (.int .i64 zb.2) ∧ w'.cell? ⟨w.heap.size, 0, none⟩ = some (Uzb) ∧ w'.cell? ⟨w.heap.size, 1, none⟩ = some (.int .i64 zb.2) ∧ Below w7.heap.size w7 w')
    (first | with_reducible exact keepF4 lx0 lx1 lp0 lp1 (Below.refl _ _) | (go_split_ands; with_reducible exact keepE4 LX.out LX.out LP.out LP.out (by assumption) (by assumption) (by assumption) (by assumption) (by assumption) (by assumption)) | go_keep)
    (first | (go_at_call 11; refine (to_half zb _ _ (Hzb.out.below (B7.out.drew)) ezb).mono ?_; rintro e w1 ⟨⟨_, rfl, x, rfl, ho⟩, hb1⟩) | (go_at_call 13; refine (eq_half zb _ _ _ (RX.out.below (draw_below hb1)) ⟨_, rfl, ho.sl⟩).mono ?_; rintro e w2 ⟨rfl, hb2⟩))
  rename_i hH
  obtain ⟨w8, hb8⟩ : ∃ q, Below w7.heap.size w7 q ∧ q = w2 := ⟨w2, hH.2.2.2.2, rfl⟩
  obtain ⟨hb8, rfl⟩ := hb8
  clear hH DX DP LX LP RX lx0 lx1 lp0 lp1 hb1 hb2 ho
  have B8 := Lib.hid (B7.out.trans (hb8.mono B7.out.size))
  have S8 := Lib.hid hb8.size
  have Pzb_8 := Lib.hid (Pzb_7.out.below hb8)
  have xzb_8 := Lib.hid (xzb_7.out.below hb8)
  have Bxzb_8 := Lib.hid (Bxzb_7.out.below hb8)
  clear hb8 Pzb_7 xzb_7 Bxzb_7
  go_wp2_with fail
  go_ret
  exact ⟨rfl, B8.out⟩

theorem walk (za : Int) (zb : Hf) (vzb : Value) (w : World) (hzb : Hv w vzb zb) (bza : -9223372036854775808 ≤ za ∧ za ≤ 9223372036854775807)   :
    Calls Try.prog 3 #[.int .i64 za, vzb] w fun e w' => e = .returned (.bool true) ∧ Below w.heap.size w w' := by
  by_cases lzb : (((zb.1.length) : Nat) : Int) ≤ 1048576
  · exact walk_short za zb vzb w hzb bza lzb 
  · exact walk_long0 za zb vzb w hzb  lzb

theorem own : ownKnob Try.prog.godebug = none := by kernel_rfl
theorem laidOut : laidOutB Try.prog = true := by kernel_rfl


set_option maxRecDepth 100000 in
set_option linter.unusedVariables false in
theorem contract (H : Type) (enc : TypeId × Value → H) (W : World) (base : Nat) (args : Array Value) (ds gs : List (DataW H)) (before : List MemPlace)
    (hval : ∀ (j : Nat) t v, Try.f3.params[j]? = some t → args[j]? = some v → Value.okWide Try.prog W .any base t v)
    (hW : DataW.Whole enc Try.prog Try.f3.params.toList Rows.fnExactIsHalfSpec.vars false W args.toList ds gs before) :
    Calls Try.prog 3 args W fun e W' => ∃ v, e = .returned v ∧ Rows.fnExactIsHalfSpec.post enc Try.prog Try.f3 false true false false W args v W' := by
  have hW' := hW
  obtain ⟨p, q, hA0, hV, rfl, hfz, hnd⟩ := hW
  have hA : DataW.TrodAll enc Try.prog W 0 (fun _ => true) true Try.f3.params.toList args.toList ds p := hA0
  rw [Try.params3] at hA hval
  obtain ⟨v0, vs0, d0, ds0, p0, q0, hargs, rfl, rfl, h0, r0⟩ := trodAll_cons hA
  obtain ⟨v1, vs1, d1, ds1, p1, q1, rfl, rfl, rfl, h1, r1⟩ := trodAll_cons r0
  obtain ⟨rfl, rfl, rfl⟩ := trodAll_nil r1
  obtain rfl : args = #[v0, v1] := by cases args; simp_all
  obtain ⟨za, rfl, rfl, rfl, wza⟩ := open_int Try.underlying3 (hval 0 3 v0 rfl rfl) h0
  have bza := bounds_i64 wza
  obtain ⟨zb, wzb⟩ : ∃ z : Hf, True ∧ Hv W v1 z ∧ (Lit.int .i64 z.2).wf = true := hv_came Try.underlying24 (by kernel_rfl) (by kernel_rfl) Try.underlying22 Try.underlying3 (by kernel_rfl) Try.underlying3 (hval 1 24 v1 rfl rfl) h1
  refine (walk za zb _ W wzb.2.1 bza  ).mono fun e W' ⟨he, hb⟩ => ?_
  subst he
  exact ⟨_, rfl, law_post laidOut (by kernel_rfl) rfl Try.underlying4 rfl hW' (fun ds' h => by match ds', h with | [d0, d1], _ => rfl) hb⟩


set_option maxRecDepth 100000 in
theorem lifted (os : Os) (started : os.Started) (H : Type) (enc : TypeId × Value → H) :
    ReturnsInHanded {} Try.checked os 3 .any (Rows.fnExactIsHalfSpec.pre6 enc Try.prog Try.f3 Rows.fnExactIsHalfRow.domain false) (Rows.fnExactIsHalfSpec.post enc Try.prog Try.f3 false true false false) := by
  refine returnsInHanded_of_change (C := Try.checked) own started (by kernel_rfl) Try.func3
    (ChangeSpec.witness6 (enc := enc) (C := Try.checked) false ⟨#[], #[.int .i64 0, .agg #[.slice none 0 0, .int .i64 0]], []⟩ 8 (by kernel_rfl) (by kernel_rfl) (by kernel_rfl) (by kernel_rfl)) ?_
  intro W base args ds gs before hval hW _ _
  exact contract H enc W base args ds gs before hval hW

theorem said : Rows.FnExactIsHalfSaid :=
  OpenClaim.holds_of_wide 3 Try.f3 rfl rfl rfl rfl rfl rfl rfl ⟨rfl, rfl, rfl, rfl, rfl⟩ rfl rfl rfl rfl rfl (by kernel_rfl) Try.func3 (by kernel_rfl)
    (of_decide_eq_true (by kernel_rfl)) (by unfold Func.isWrapper; first | (rw [if_pos (by decide +kernel)]; kernel_rfl) | (rw [if_neg (by decide +kernel)]; exact ⟨rfl, rfl⟩))
    (fun os started H enc _ => lifted os started H enc)
end Go.Proofs.Ytflkalgofkpdbaa.fnExactIsHalf
