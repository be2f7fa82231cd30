/- FnExactIsTerm holds for every input. Conditions: none. -/
import Derived.Test.YtjijgagdaolkcaaMaz
import Derived.Test.YtjijgagdaolkcaaMav
import Derived.Test.YtjijgagdaolkcaaMao
import Derived.Test.YtjijgagdaolkcaaMau
import Derived.Test.YtjijgagdaolkcaaMad
import Derived.Test.YtjijgagdaolkcaaLaw
import Derived.Test.YtjijgagdaolkcaaRows
namespace Go.Proofs.Ytjijgagdaolkcaa.fnExactIsTerm
open Go.ChangeShapes Go.WideShapes Go.ChangeAt Go.RowKit Go.Lib
open Go.ChangeMaps (open_string shut_string)
set_option linter.unusedVariables false in
set_option maxRecDepth 100000 in
set_option maxHeartbeats 400000 in
theorem walk_long0 (za : Tm) (vza : Value) (w : World) (hza : Tv w vza za)  (hl : ¬ (((za.2.1.length + (za.2.2.length + tot za.2.2)) : Nat) : Int) ≤ 1048576) :
    Calls Try.prog 5 #[vza] w fun e w' => e = .returned (.bool true) ∧ Below w.heap.size w w' := by
  have Hza := Lib.hid hza
  obtain ⟨Uza, Gza, rfl, _, _⟩ := hza
  have Qza := Lib.hid (show szTm za 1048576 = -1 from szTm_small (by omega))
  have B0 := Lib.hid (Below.refl w.heap.size w)
  have hb1 := below1 w (.cells #[.int .i64 za.1, Uza, Gza] 59)
  have B1 := Lib.hid (B0.out.trans (hb1.mono B0.out.size))
  have S1 := Lib.hid (alloc_lt w (.cells #[.int .i64 za.1, Uza, Gza] 59))
  have Pza_1 := Lib.hid (Bk.new w #[.int .i64 za.1, Uza, Gza] 59)
  clear hb1
  go_enter Try.func5, Try.ntmps5
  obtain ⟨⟨lPza0, lPza1, lPza2⟩, -⟩ := Pza_1.out.tri
  go_wp2_with fail
  refine (sz_term za _ 1048576 _ (Hza.out.below B1.out) (by omega) (by omega)).mono ?_
  rintro e w2 ⟨rfl, hb2⟩
  rw [Qza.out]
  have B2 := Lib.hid (B1.out.trans (hb2.mono B1.out.size))
  have S2 := Lib.hid hb2.size
  have Pza_2 := Lib.hid (Pza_1.out.below hb2)
  clear hb2 Pza_1
  clear lPza0 lPza1 lPza2
  go_wp2_with fail
  go_ret
  exact ⟨rfl, B2.out⟩

set_option linter.unusedVariables false in
set_option maxRecDepth 100000 in
set_option maxHeartbeats 3200000 in
theorem walk_short (za : Tm) (vza : Value) (w : World) (hza : Tv w vza za)  (lza : (((za.2.1.length + (za.2.2.length + tot za.2.2)) : Nat) : Int) ≤ 1048576)  :
    Calls Try.prog 5 #[vza] w fun e w' => e = .returned (.bool true) ∧ Below w.heap.size w w' := by
  have HS := Lib.hid (fun (xza : Value) (w : World) (yza : Tv w xza za)  => s_term za xza w yza)
  have HI := Lib.hid (fun (xza : Value) (w : World) (yza : Tv w xza za)  => i_term za xza w yza)
  generalize termR za = R at HS HI
  have Hza := Lib.hid hza
  obtain ⟨Uza, Gza, rfl, _, _⟩ := hza
  obtain ⟨Lza, hLza⟩ : ∃ q : Int, 1048576 - za.2.1.length - (za.2.2.length + tot za.2.2 : Nat) = q := ⟨_, rfl⟩
  have g1za : 0 ≤ Lza := by omega
  have g2za : Lza ≤ 1048576 := by omega
  have Qza := Lib.hid (show szTm za 1048576 = Lza by rw [szTm_fits (by omega), hLza])
  clear hLza
  have eza : za.2.1.length ≤ 1048576 ∧ za.2.2.length ≤ 1048576 := by omega
  have fza : ∀ (i : Nat) zs, za.2.2[i]? = some zs → zs.length ≤ 1048576 := fun i zs hz => by have h1 := lt_of_get hz; have h2 := row_le_tot h1; rw [List.getElem?_eq_getElem h1] at hz; obtain rfl := Option.some.inj hz; omega
  have Fza := Lib.hid fza
  clear fza
  have B0 := Lib.hid (Below.refl w.heap.size w)
  have hb1 := below1 w (.cells #[.int .i64 za.1, Uza, Gza] 59)
  have B1 := Lib.hid (B0.out.trans (hb1.mono B0.out.size))
  have S1 := Lib.hid (alloc_lt w (.cells #[.int .i64 za.1, Uza, Gza] 59))
  have Pza_1 := Lib.hid (Bk.new w #[.int .i64 za.1, Uza, Gza] 59)
  clear hb1
  go_enter Try.func5, Try.ntmps5
  obtain ⟨⟨lPza0, lPza1, lPza2⟩, -⟩ := Pza_1.out.tri
  go_wp2_with fail
  refine (sz_term za _ 1048576 _ (Hza.out.below B1.out) (by omega) (by omega)).mono ?_
  rintro e w2 ⟨rfl, hb2⟩
  rw [Qza.out]
  have B2 := Lib.hid (B1.out.trans (hb2.mono B1.out.size))
  have S2 := Lib.hid hb2.size
  have Pza_2 := Lib.hid (Pza_1.out.below hb2)
  clear hb2 Pza_1
  clear lPza0 lPza1 lPza2
  obtain ⟨⟨lPza0, lPza1, lPza2⟩, -⟩ := Pza_2.out.tri
  go_wp2_with fail
  refine (to_term za _ _ (Hza.out.below B2.out) eza Fza.out).mono ?_
  rintro e w3 ⟨⟨_, rfl, x, y, rfl, ho⟩, hb3⟩
  obtain ⟨xacza, xccza, xbcza, xdcza, rfl, rfl⟩ := ho.shape
  clear lPza0 lPza1 lPza2
  have B3 := Lib.hid (B2.out.trans (hb3.mono B2.out.size))
  have S3 := Lib.hid hb3.size
  have Pza_3 := Lib.hid (Pza_2.out.below hb3)
  have cza_3 := Lib.hid ho
  clear hb3 Pza_2 ho
  go_wp2_with fail
  refine (HS.out _ _ cza_3.out.tv ).mono ?_
  rintro e w4 ⟨rfl, hb4⟩
  have B4 := Lib.hid (B3.out.trans (hb4.mono B3.out.size))
  have S4 := Lib.hid hb4.size
  have Pza_4 := Lib.hid (Pza_3.out.below hb4)
  have cza_4 := Lib.hid (cza_3.out.below hb4)
  clear hb4 Pza_3 cza_3
  clear cza_4
  obtain ⟨⟨lPza0, lPza1, lPza2⟩, -⟩ := Pza_4.out.tri
  go_wp2_with fail
  refine (to_term za _ _ (Hza.out.below B4.out) eza Fza.out).mono ?_
  rintro e w5 ⟨⟨_, rfl, x, y, rfl, ho⟩, hb5⟩
  obtain ⟨xaxza, xcxza, xbxza, xdxza, rfl, rfl⟩ := ho.shape
  clear lPza0 lPza1 lPza2
  have B5 := Lib.hid (B4.out.trans (hb5.mono B4.out.size))
  have S5 := Lib.hid hb5.size
  have Pza_5 := Lib.hid (Pza_4.out.below hb5)
  have xza_5 := Lib.hid ho
  clear hb5 Pza_4 ho
  have hb6 := below1 w5 (.cells #[.int .i64 za.1, .slice xaxza za.2.1.length xcxza, .slice xbxza za.2.2.length xdxza] 49)
  have B6 := Lib.hid (B5.out.trans (hb6.mono B5.out.size))
  have S6 := Lib.hid (alloc_lt w5 (.cells #[.int .i64 za.1, .slice xaxza za.2.1.length xcxza, .slice xbxza za.2.2.length xdxza] 49))
  have Pza_6 := Lib.hid (Pza_5.out.below hb6)
  have xza_6 := Lib.hid (xza_5.out.below hb6)
  have Bxza_6 := Lib.hid (Bk.new w5 #[.int .i64 za.1, .slice xaxza za.2.1.length xcxza, .slice xbxza za.2.2.length xdxza] 49)
  clear hb6 Pza_5 xza_5
  obtain ⟨⟨lBxza0, lBxza1, lBxza2⟩, -⟩ := Bxza_6.out.tri
  go_wp2_with fail
  refine (HI.out _ _ xza_6.out.tv ).mono ?_
  rintro e w7 ⟨rfl, hb7⟩
  have B7 := Lib.hid (B6.out.trans (hb7.mono B6.out.size))
  have S7 := Lib.hid hb7.size
  have Pza_7 := Lib.hid (Pza_6.out.below hb7)
  have xza_7 := Lib.hid (xza_6.out.below hb7)
  have Bxza_7 := Lib.hid (Bxza_6.out.below hb7)
  clear hb7 Pza_6 xza_6 Bxza_6
  clear lBxza0 lBxza1 lBxza2
  have DX := Lib.hid Bxza_7.out.tri.1
  have DP := Lib.hid Pza_7.out.tri.1
  have LX := Lib.hid Bxza_7.out.lt
  have LP := Lib.hid Pza_7.out.lt
  have RX := Lib.hid (show Tv w7 (.agg #[.int .i64 za.1, .slice xaxza za.2.1.length xcxza, .slice xbxza za.2.2.length xdxza]) za from xza_7.out.tv)
  obtain ⟨lx0, lx1, lx2⟩ := DX.out
  obtain ⟨lp0, lp1, lp2⟩ := DP.out
  go_wp2_with fail
  go_region_held3 (fun w' => w'.cell? ⟨w5.heap.size, 0, none⟩ = some (.int .i64 za.1) ∧ w'.cell? ⟨w5.heap.size, 1, none⟩ = some (.slice xaxza za.2.1.length xcxza) ∧ w'.cell? ⟨w5.heap.size, 2, none⟩ = some (.slice xbxza za.2.2.length xdxza) ∧ w'.cell? ⟨w.heap.size, 0, none⟩ = some (.int .i64 za.1) ∧ w'.cell? ⟨w.heap.size, 1, none⟩ = some (Uza) ∧ w'.cell? ⟨w.heap.size, 2, none⟩ = some (Gza) ∧ Below w7.heap.size w7 w')
    (first | with_reducible exact keepF6 lx0 lx1 lx2 lp0 lp1 lp2 (Below.refl _ _) | (go_split_ands; with_reducible exact keepE6 LX.out LX.out LX.out LP.out LP.out LP.out (by assumption) (by assumption) (by assumption) (by assumption) (by assumption) (by assumption) (by assumption) (by assumption)) | go_keep)
    (first | (go_at_call 47; refine (to_term za _ _ (Hza.out.below (B7.out.drew)) eza Fza.out).mono ?_; rintro e w1 ⟨⟨_, rfl, x, y, rfl, ho⟩, hb1⟩) | (go_at_call 48; refine (eq_term za _ _ _ (RX.out.below (drew_below hb1)) ho.tv).mono ?_; rintro e w2 ⟨rfl, hb2⟩))
  rename_i hH
  obtain ⟨w8, hb8⟩ : ∃ q, Below w7.heap.size w7 q ∧ q = w2 := ⟨w2, hH.2.2.2.2.2.2, rfl⟩
  obtain ⟨hb8, rfl⟩ := hb8
  clear hH DX DP LX LP RX lx0 lx1 lx2 lp0 lp1 lp2 hb1 hb2 ho
  have B8 := Lib.hid (B7.out.trans (hb8.mono B7.out.size))
  have S8 := Lib.hid hb8.size
  have Pza_8 := Lib.hid (Pza_7.out.below hb8)
  have xza_8 := Lib.hid (xza_7.out.below hb8)
  have Bxza_8 := Lib.hid (Bxza_7.out.below hb8)
  clear hb8 Pza_7 xza_7 Bxza_7
  go_wp2_with fail
  go_ret
  exact ⟨rfl, B8.out⟩

theorem walk (za : Tm) (vza : Value) (w : World) (hza : Tv w vza za)    :
    Calls Try.prog 5 #[vza] w fun e w' => e = .returned (.bool true) ∧ Below w.heap.size w w' := by
  by_cases lza : (((za.2.1.length + (za.2.2.length + tot za.2.2)) : Nat) : Int) ≤ 1048576
  · exact walk_short za vza w hza  lza 
  · exact walk_long0 za vza w hza  lza

theorem own : ownKnob Try.prog.godebug = none := by kernel_rfl
theorem laidOut : laidOutB Try.prog = true := by kernel_rfl


set_option maxRecDepth 100000 in
set_option linter.unusedVariables false in
theorem contract (H : Type) (enc : TypeId × Value → H) (W : World) (base : Nat) (args : Array Value) (ds gs : List (DataW H)) (before : List MemPlace)
    (hval : ∀ (j : Nat) t v, Try.f5.params[j]? = some t → args[j]? = some v → Value.okWide Try.prog W .any base t v)
    (hW : DataW.Whole enc Try.prog Try.f5.params.toList Rows.fnExactIsTermSpec.vars false W args.toList ds gs before) :
    Calls Try.prog 5 args W fun e W' => ∃ v, e = .returned v ∧ Rows.fnExactIsTermSpec.post enc Try.prog Try.f5 false true false false W args v W' := by
  have hW' := hW
  obtain ⟨p, q, hA0, hV, rfl, hfz, hnd⟩ := hW
  have hA : DataW.TrodAll enc Try.prog W 0 (fun _ => true) true Try.f5.params.toList args.toList ds p := hA0
  rw [Try.params5] at hA hval
  obtain ⟨v0, vs0, d0, ds0, p0, q0, hargs, rfl, rfl, h0, r0⟩ := trodAll_cons hA
  obtain ⟨rfl, rfl, rfl⟩ := trodAll_nil r0
  obtain rfl : args = #[v0] := by cases args; simp_all
  obtain ⟨za, wza⟩ : ∃ z : Tm, True ∧ Tv W v0 z ∧ (Lit.int .i64 z.1).wf = true := tv_came Try.underlying59 (by kernel_rfl) (by kernel_rfl) Try.underlying3 Try.underlying24 Try.underlying3 (by kernel_rfl) Try.underlying28 Try.underlying24 Try.underlying3 (by kernel_rfl) (by kernel_rfl) (hval 0 59 v0 rfl rfl) h0
  refine (walk za _ W wza.2.1   ).mono fun e W' ⟨he, hb⟩ => ?_
  subst he
  exact ⟨_, rfl, law_post laidOut (by kernel_rfl) rfl Try.underlying4 rfl hW' (fun ds' h => by match ds', h with | [d0], _ => rfl) hb⟩


set_option maxRecDepth 100000 in
theorem lifted (os : Os) (started : os.Started) (H : Type) (enc : TypeId × Value → H) :
    ReturnsInHanded {} Try.checked os 5 .any (Rows.fnExactIsTermSpec.pre6 enc Try.prog Try.f5 Rows.fnExactIsTermRow.domain false) (Rows.fnExactIsTermSpec.post enc Try.prog Try.f5 false true false false) := by
  refine returnsInHanded_of_change (C := Try.checked) own started (by kernel_rfl) Try.func5
    (ChangeSpec.witness6 (enc := enc) (C := Try.checked) false ⟨#[], #[.agg #[.int .i64 0, .slice none 0 0, .slice none 0 0]], []⟩ 8 (by kernel_rfl) (by kernel_rfl) (by kernel_rfl) (by kernel_rfl)) ?_
  intro W base args ds gs before hval hW _ _
  exact contract H enc W base args ds gs before hval hW

theorem said : Rows.FnExactIsTermSaid :=
  OpenClaim.holds_of_wide 5 Try.f5 rfl rfl rfl rfl rfl rfl rfl ⟨rfl, rfl, rfl, rfl, rfl⟩ rfl rfl rfl rfl rfl (by kernel_rfl) Try.func5 (by kernel_rfl)
    (of_decide_eq_true (by kernel_rfl)) (by unfold Func.isWrapper; first | (rw [if_pos (by decide +kernel)]; kernel_rfl) | (rw [if_neg (by decide +kernel)]; exact ⟨rfl, rfl⟩))
    (fun os started H enc _ => lifted os started H enc)
end Go.Proofs.Ytjijgagdaolkcaa.fnExactIsTerm
