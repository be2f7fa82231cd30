/- FnExactTermAt holds for every input. Conditions: none. -/
import Derived.Test.YtjijgagdaolkcaaMaz
import Derived.Test.YtjijgagdaolkcaaMav
import Derived.Test.YtjijgagdaolkcaaMao
import Derived.Test.YtjijgagdaolkcaaMau
import Derived.Test.YtjijgagdaolkcaaMad
import Derived.Test.YtjijgagdaolkcaaLaw
import Derived.Test.YtjijgagdaolkcaaRows
namespace Go.Proofs.Ytjijgagdaolkcaa.fnExactTermAt
open Go.ChangeShapes Go.WideShapes Go.ChangeAt Go.RowKit Go.Lib
open Go.ChangeMaps (open_string shut_string)
set_option linter.unusedVariables false in
set_option maxRecDepth 100000 in
set_option maxHeartbeats 400000 in
theorem walk_long0 (za : Tm) (vza : Value) (zb : List Int) (vzb : Value) (w : World) (hzb : Sl w vzb (intVals zb)) (hza : Tv w vza za)  (hl : 1048576 < zb.length) :
    Calls Try.prog 6 #[vza, vzb] w fun e w' => e = .returned (.bool true) ∧ Below w.heap.size w w' := by
  have Hzb := Lib.hid hzb
  obtain ⟨Azb, Czb, rfl, Mzb, _⟩ := hzb.shape
  rw [intVals_len] at Mzb Hzb ⊢
  unfold maxLen at Mzb
  clear hzb
  have Hza := Lib.hid hza
  obtain ⟨Uza, Gza, rfl, _, _⟩ := hza
  have B0 := Lib.hid (Below.refl w.heap.size w)
  have hb1 := below1 w (.cells #[.int .i64 za.1, Uza, Gza] 59)
  have B1 := Lib.hid (B0.out.trans (hb1.mono B0.out.size))
  have S1 := Lib.hid (alloc_lt w (.cells #[.int .i64 za.1, Uza, Gza] 59))
  have Pza_1 := Lib.hid (Bk.new w #[.int .i64 za.1, Uza, Gza] 59)
  clear hb1
  go_enter Try.func6, Try.ntmps6
  go_wp2_with fail
  go_ret
  exact ⟨rfl, B1.out⟩

set_option linter.unusedVariables false in
set_option maxRecDepth 100000 in
set_option maxHeartbeats 400000 in
theorem walk_long1 (za : Tm) (vza : Value) (zb : List Int) (vzb : Value) (w : World) (hzb : Sl w vzb (intVals zb)) (hza : Tv w vza za) (lzb : zb.length ≤ 1048576) (hl : ¬ (((za.2.1.length + (za.2.2.length + tot za.2.2)) : Nat) : Int) ≤ 1048576) :
    Calls Try.prog 6 #[vza, vzb] w fun e w' => e = .returned (.bool true) ∧ Below w.heap.size w w' := by
  have Hzb := Lib.hid hzb
  obtain ⟨Azb, Czb, rfl, Mzb, _⟩ := hzb.shape
  rw [intVals_len] at Mzb Hzb ⊢
  unfold maxLen at Mzb
  clear hzb
  have Hza := Lib.hid hza
  obtain ⟨Uza, Gza, rfl, _, _⟩ := hza
  have Qza := Lib.hid (show szTm za 1048576 = -1 from szTm_small (by omega))
  have B0 := Lib.hid (Below.refl w.heap.size w)
  have hb1 := below1 w (.cells #[.int .i64 za.1, Uza, Gza] 59)
  have B1 := Lib.hid (B0.out.trans (hb1.mono B0.out.size))
  have S1 := Lib.hid (alloc_lt w (.cells #[.int .i64 za.1, Uza, Gza] 59))
  have Pza_1 := Lib.hid (Bk.new w #[.int .i64 za.1, Uza, Gza] 59)
  clear hb1
  go_enter Try.func6, Try.ntmps6
  obtain ⟨⟨lPza0, lPza1, lPza2⟩, -⟩ := Pza_1.out.tri
  go_wp2_with fail
  refine (sz_term za _ 1048576 _ (Hza.out.below B1.out) (by omega) (by omega)).mono ?_
  rintro e w2 ⟨rfl, hb2⟩
  rw [Qza.out]
  have B2 := Lib.hid (B1.out.trans (hb2.mono B1.out.size))
  have S2 := Lib.hid hb2.size
  have Pza_2 := Lib.hid (Pza_1.out.below hb2)
  clear hb2 Pza_1
  clear lPza0 lPza1 lPza2
  go_wp2_with fail
  go_ret
  exact ⟨rfl, B2.out⟩

set_option linter.unusedVariables false in
set_option maxRecDepth 100000 in
set_option maxHeartbeats 3200000 in
theorem walk_short (za : Tm) (vza : Value) (zb : List Int) (vzb : Value) (w : World) (hza : Tv w vza za) (hzb : Sl w vzb (intVals zb))  (lzb : zb.length ≤ 1048576) (lza : (((za.2.1.length + (za.2.2.length + tot za.2.2)) : Nat) : Int) ≤ 1048576)  :
    Calls Try.prog 6 #[vza, vzb] w fun e w' => e = .returned (.bool true) ∧ Below w.heap.size w w' := by
  have HS := Lib.hid (fun (xza : Value) (xzb : Value) (w : World) (yza : Tv w xza za) (yzb : Sl w xzb (intVals zb))  => s_termat za zb xza xzb w yza yzb)
  have HI := Lib.hid (fun (xza : Value) (xzb : Value) (w : World) (yza : Tv w xza za) (yzb : Sl w xzb (intVals zb))  => i_termat za zb xza xzb w yza yzb)
  generalize termAtR za zb = R at HS HI
  have Hza := Lib.hid hza
  obtain ⟨Uza, Gza, rfl, _, _⟩ := hza
  have Hzb := Lib.hid hzb
  obtain ⟨Azb, Czb, rfl, Mzb, _⟩ := hzb.shape
  rw [intVals_len] at Mzb Hzb ⊢
  unfold maxLen at Mzb
  clear hzb
  obtain ⟨Lza, hLza⟩ : ∃ q : Int, 1048576 - za.2.1.length - (za.2.2.length + tot za.2.2 : Nat) = q := ⟨_, rfl⟩
  have g1za : 0 ≤ Lza := by omega
  have g2za : Lza ≤ 1048576 := by omega
  have Qza := Lib.hid (show szTm za 1048576 = Lza by rw [szTm_fits (by omega), hLza])
  clear hLza
  have eza : za.2.1.length ≤ 1048576 ∧ za.2.2.length ≤ 1048576 := by omega
  have fza : ∀ (i : Nat) zs, za.2.2[i]? = some zs → zs.length ≤ 1048576 := fun i zs hz => by have h1 := lt_of_get hz; have h2 := row_le_tot h1; rw [List.getElem?_eq_getElem h1] at hz; obtain rfl := Option.some.inj hz; omega
  have Fza := Lib.hid fza
  clear fza
  have B0 := Lib.hid (Below.refl w.heap.size w)
  have hb1 := below1 w (.cells #[.int .i64 za.1, Uza, Gza] 59)
  have B1 := Lib.hid (B0.out.trans (hb1.mono B0.out.size))
  have S1 := Lib.hid (alloc_lt w (.cells #[.int .i64 za.1, Uza, Gza] 59))
  have Pza_1 := Lib.hid (Bk.new w #[.int .i64 za.1, Uza, Gza] 59)
  clear hb1
  go_enter Try.func6, Try.ntmps6
  obtain ⟨⟨lPza0, lPza1, lPza2⟩, -⟩ := Pza_1.out.tri
  go_wp2_with fail
  refine (sz_term za _ 1048576 _ (Hza.out.below B1.out) (by omega) (by omega)).mono ?_
  rintro e w2 ⟨rfl, hb2⟩
  rw [Qza.out]
  have B2 := Lib.hid (B1.out.trans (hb2.mono B1.out.size))
  have S2 := Lib.hid hb2.size
  have Pza_2 := Lib.hid (Pza_1.out.below hb2)
  clear hb2 Pza_1
  clear lPza0 lPza1 lPza2
  obtain ⟨⟨lPza0, lPza1, lPza2⟩, -⟩ := Pza_2.out.tri
  go_wp2_with fail
  refine (to_term za _ _ (Hza.out.below B2.out) eza Fza.out).mono ?_
  rintro e w3 ⟨⟨_, rfl, x, y, rfl, ho⟩, hb3⟩
  obtain ⟨xacza, xccza, xbcza, xdcza, rfl, rfl⟩ := ho.shape
  clear lPza0 lPza1 lPza2
  have B3 := Lib.hid (B2.out.trans (hb3.mono B2.out.size))
  have S3 := Lib.hid hb3.size
  have Pza_3 := Lib.hid (Pza_2.out.below hb3)
  have cza_3 := Lib.hid ho
  clear hb3 Pza_2 ho
  go_wp2_with fail
  refine (to_int zb _ _ (Hzb.out.below B3.out) lzb).mono ?_
  rintro e w4 ⟨⟨r, rfl, ho⟩, hb4⟩
  have B4 := Lib.hid (B3.out.trans (hb4.mono B3.out.size))
  have S4 := Lib.hid hb4.size
  have Pza_4 := Lib.hid (Pza_3.out.below hb4)
  have cza_4 := Lib.hid (cza_3.out.below hb4)
  have czb_4 := Lib.hid (OwnV.of_owns ho)
  clear hb4 Pza_3 cza_3 ho
  go_wp2_with fail
  refine (HS.out _ _ _ cza_4.out.tv czb_4.out.sl ).mono ?_
  rintro e w5 ⟨rfl, hb5⟩
  have B5 := Lib.hid (B4.out.trans (hb5.mono B4.out.size))
  have S5 := Lib.hid hb5.size
  have Pza_5 := Lib.hid (Pza_4.out.below hb5)
  have cza_5 := Lib.hid (cza_4.out.below hb5)
  have czb_5 := Lib.hid (czb_4.out.below hb5)
  clear hb5 Pza_4 cza_4 czb_4
  clear cza_5
  clear czb_5
  obtain ⟨⟨lPza0, lPza1, lPza2⟩, -⟩ := Pza_5.out.tri
  go_wp2_with fail
  refine (to_term za _ _ (Hza.out.below B5.out) eza Fza.out).mono ?_
  rintro e w6 ⟨⟨_, rfl, x, y, rfl, ho⟩, hb6⟩
  obtain ⟨xaxza, xcxza, xbxza, xdxza, rfl, rfl⟩ := ho.shape
  clear lPza0 lPza1 lPza2
  have B6 := Lib.hid (B5.out.trans (hb6.mono B5.out.size))
  have S6 := Lib.hid hb6.size
  have Pza_6 := Lib.hid (Pza_5.out.below hb6)
  have xza_6 := Lib.hid ho
  clear hb6 Pza_5 ho
  have hb7 := below1 w6 (.cells #[.int .i64 za.1, .slice xaxza za.2.1.length xcxza, .slice xbxza za.2.2.length xdxza] 49)
  have B7 := Lib.hid (B6.out.trans (hb7.mono B6.out.size))
  have S7 := Lib.hid (alloc_lt w6 (.cells #[.int .i64 za.1, .slice xaxza za.2.1.length xcxza, .slice xbxza za.2.2.length xdxza] 49))
  have Pza_7 := Lib.hid (Pza_6.out.below hb7)
  have xza_7 := Lib.hid (xza_6.out.below hb7)
  have Bxza_7 := Lib.hid (Bk.new w6 #[.int .i64 za.1, .slice xaxza za.2.1.length xcxza, .slice xbxza za.2.2.length xdxza] 49)
  clear hb7 Pza_6 xza_6
  go_wp2_with fail
  refine (to_int zb _ _ (Hzb.out.below B7.out) lzb).mono ?_
  rintro e w8 ⟨⟨r, rfl, ho⟩, hb8⟩
  have B8 := Lib.hid (B7.out.trans (hb8.mono B7.out.size))
  have S8 := Lib.hid hb8.size
  have Pza_8 := Lib.hid (Pza_7.out.below hb8)
  have xza_8 := Lib.hid (xza_7.out.below hb8)
  have Bxza_8 := Lib.hid (Bxza_7.out.below hb8)
  have xzb_8 := Lib.hid (OwnV.of_owns ho)
  clear hb8 Pza_7 xza_7 Bxza_7 ho
  obtain ⟨⟨lBxza0, lBxza1, lBxza2⟩, -⟩ := Bxza_8.out.tri
  go_wp2_with fail
  refine (HI.out _ _ _ xza_8.out.tv xzb_8.out.sl ).mono ?_
  rintro e w9 ⟨rfl, hb9⟩
  have B9 := Lib.hid (B8.out.trans (hb9.mono B8.out.size))
  have S9 := Lib.hid hb9.size
  have Pza_9 := Lib.hid (Pza_8.out.below hb9)
  have xza_9 := Lib.hid (xza_8.out.below hb9)
  have Bxza_9 := Lib.hid (Bxza_8.out.below hb9)
  have xzb_9 := Lib.hid (xzb_8.out.below hb9)
  clear hb9 Pza_8 xza_8 Bxza_8 xzb_8
  clear lBxza0 lBxza1 lBxza2
  have DX := Lib.hid Bxza_9.out.tri.1
  have DP := Lib.hid Pza_9.out.tri.1
  have LX := Lib.hid Bxza_9.out.lt
  have LP := Lib.hid Pza_9.out.lt
  have RX := Lib.hid (show Tv w9 (.agg #[.int .i64 za.1, .slice xaxza za.2.1.length xcxza, .slice xbxza za.2.2.length xdxza]) za from xza_9.out.tv)
  obtain ⟨lx0, lx1, lx2⟩ := DX.out
  obtain ⟨lp0, lp1, lp2⟩ := DP.out
  go_wp2_with fail
  go_region_held3 (fun w' => w'.cell? ⟨w6.heap.size, 0, none⟩ = some (.int .i64 za.1) ∧ w'.cell? ⟨w6.heap.size, 1, none⟩ = some (.slice xaxza za.2.1.length xcxza) ∧ w'.cell? ⟨w6.heap.size, 2, none⟩ = some (.slice xbxza za.2.2.length xdxza) ∧ w'.cell? ⟨w.heap.size, 0, none⟩ = some (.int .i64 za.1) ∧ w'.cell? ⟨w.heap.size, 1, none⟩ = some (Uza) ∧ w'.cell? ⟨w.heap.size, 2, none⟩ = some (Gza) ∧ Below w9.heap.size w9 w')
    (first | with_reducible exact keepF6 lx0 lx1 lx2 lp0 lp1 lp2 (Below.refl _ _) | (go_split_ands; with_reducible exact keepE6 LX.out LX.out LX.out LP.out LP.out LP.out (by assumption) (by assumption) (by assumption) (by assumption) (by assumption) (by assumption) (by assumption) (by assumption)) | go_keep)
    (first | (go_at_call 47; refine (to_term za _ _ (Hza.out.below (B9.out.drew)) eza Fza.out).mono ?_; rintro e w1 ⟨⟨_, rfl, x, y, rfl, ho⟩, hb1⟩) | (go_at_call 48; refine (eq_term za _ _ _ (RX.out.below (drew_below hb1)) ho.tv).mono ?_; rintro e w2 ⟨rfl, hb2⟩))
  rename_i hH
  obtain ⟨w10, hb10⟩ : ∃ q, Below w9.heap.size w9 q ∧ q = w2 := ⟨w2, hH.2.2.2.2.2.2, rfl⟩
  obtain ⟨hb10, rfl⟩ := hb10
  clear hH DX DP LX LP RX lx0 lx1 lx2 lp0 lp1 lp2 hb1 hb2 ho
  have B10 := Lib.hid (B9.out.trans (hb10.mono B9.out.size))
  have S10 := Lib.hid hb10.size
  have Pza_10 := Lib.hid (Pza_9.out.below hb10)
  have xza_10 := Lib.hid (xza_9.out.below hb10)
  have Bxza_10 := Lib.hid (Bxza_9.out.below hb10)
  have xzb_10 := Lib.hid (xzb_9.out.below hb10)
  clear hb10 Pza_9 xza_9 Bxza_9 xzb_9
  go_wp2_with fail
  refine (to_int zb _ _ (Hzb.out.below B10.out) lzb).mono ?_
  rintro e w11 ⟨⟨r, rfl, ho⟩, hb11⟩
  have B11 := Lib.hid (B10.out.trans (hb11.mono B10.out.size))
  have S11 := Lib.hid hb11.size
  have Pza_11 := Lib.hid (Pza_10.out.below hb11)
  have xza_11 := Lib.hid (xza_10.out.below hb11)
  have Bxza_11 := Lib.hid (Bxza_10.out.below hb11)
  have xzb_11 := Lib.hid (xzb_10.out.below hb11)
  have tzb_11 := Lib.hid (OwnV.of_owns ho)
  clear hb11 Pza_10 xza_10 Bxza_10 xzb_10 ho
  go_wp2_with fail
  refine (eq_int zb _ _ _ xzb_11.out.sl tzb_11.out.sl).mono ?_
  rintro e w12 ⟨rfl, hb12⟩
  have B12 := Lib.hid (B11.out.trans (hb12.mono B11.out.size))
  have S12 := Lib.hid hb12.size
  have Pza_12 := Lib.hid (Pza_11.out.below hb12)
  have xza_12 := Lib.hid (xza_11.out.below hb12)
  have Bxza_12 := Lib.hid (Bxza_11.out.below hb12)
  have xzb_12 := Lib.hid (xzb_11.out.below hb12)
  have tzb_12 := Lib.hid (tzb_11.out.below hb12)
  clear hb12 Pza_11 xza_11 Bxza_11 xzb_11 tzb_11
  clear tzb_12
  go_wp2_with fail
  go_ret
  exact ⟨rfl, B12.out⟩

theorem walk (za : Tm) (vza : Value) (zb : List Int) (vzb : Value) (w : World) (hza : Tv w vza za) (hzb : Sl w vzb (intVals zb))    :
    Calls Try.prog 6 #[vza, vzb] w fun e w' => e = .returned (.bool true) ∧ Below w.heap.size w w' := by
  by_cases lzb : zb.length ≤ 1048576
  · by_cases lza : (((za.2.1.length + (za.2.2.length + tot za.2.2)) : Nat) : Int) ≤ 1048576
    · exact walk_short za vza zb vzb w hza hzb  lzb lza 
    · exact walk_long1 za vza zb vzb w hzb hza lzb lza
  · exact walk_long0 za vza zb vzb w hzb hza  (by omega)

theorem own : ownKnob Try.prog.godebug = none := by kernel_rfl
theorem laidOut : laidOutB Try.prog = true := by kernel_rfl


set_option maxRecDepth 100000 in
set_option linter.unusedVariables false in
theorem contract (H : Type) (enc : TypeId × Value → H) (W : World) (base : Nat) (args : Array Value) (ds gs : List (DataW H)) (before : List MemPlace)
    (hval : ∀ (j : Nat) t v, Try.f6.params[j]? = some t → args[j]? = some v → Value.okWide Try.prog W .any base t v)
    (hW : DataW.Whole enc Try.prog Try.f6.params.toList Rows.fnExactTermAtSpec.vars false W args.toList ds gs before) :
    Calls Try.prog 6 args W fun e W' => ∃ v, e = .returned v ∧ Rows.fnExactTermAtSpec.post enc Try.prog Try.f6 false true false false W args v W' := by
  have hW' := hW
  obtain ⟨p, q, hA0, hV, rfl, hfz, hnd⟩ := hW
  have hA : DataW.TrodAll enc Try.prog W 0 (fun _ => true) true Try.f6.params.toList args.toList ds p := hA0
  rw [Try.params6] at hA hval
  obtain ⟨v0, vs0, d0, ds0, p0, q0, hargs, rfl, rfl, h0, r0⟩ := trodAll_cons hA
  obtain ⟨v1, vs1, d1, ds1, p1, q1, rfl, rfl, rfl, h1, r1⟩ := trodAll_cons r0
  obtain ⟨rfl, rfl, rfl⟩ := trodAll_nil r1
  obtain rfl : args = #[v0, v1] := by cases args; simp_all
  obtain ⟨za, wza⟩ : ∃ z : Tm, True ∧ Tv W v0 z ∧ (Lit.int .i64 z.1).wf = true := tv_came Try.underlying59 (by kernel_rfl) (by kernel_rfl) Try.underlying3 Try.underlying24 Try.underlying3 (by kernel_rfl) Try.underlying28 Try.underlying24 Try.underlying3 (by kernel_rfl) (by kernel_rfl) (hval 0 59 v0 rfl rfl) h0
  obtain ⟨zbA, zbL, zbC, rfl⟩ := okWide_slice Try.underlying24 (hval 1 24 v1 rfl rfl)
  obtain ⟨zb, wzb⟩ : ∃ zs : List Int, zs.length = zbL ∧ Sl W (.slice zbA zbL zbC) (numVals .i64 zs) ∧ ∀ z ∈ zs, (Lit.int .i64 z).wf = true := by
    obtain ⟨fuel, hf⟩ := h1
    exact nums_came Try.underlying24 Try.underlying3 (by kernel_rfl) hf
  refine (walk za _ zb _ W wza.2.1 wzb.2.1   ).mono fun e W' ⟨he, hb⟩ => ?_
  subst he
  exact ⟨_, rfl, law_post laidOut (by kernel_rfl) rfl Try.underlying4 rfl hW' (fun ds' h => by match ds', h with | [d0, d1], _ => rfl) hb⟩


set_option maxRecDepth 100000 in
theorem lifted (os : Os) (started : os.Started) (H : Type) (enc : TypeId × Value → H) :
    ReturnsInHanded {} Try.checked os 6 .any (Rows.fnExactTermAtSpec.pre6 enc Try.prog Try.f6 Rows.fnExactTermAtRow.domain false) (Rows.fnExactTermAtSpec.post enc Try.prog Try.f6 false true false false) := by
  refine returnsInHanded_of_change (C := Try.checked) own started (by kernel_rfl) Try.func6
    (ChangeSpec.witness6 (enc := enc) (C := Try.checked) false ⟨#[], #[.agg #[.int .i64 0, .slice none 0 0, .slice none 0 0], .slice none 0 0], []⟩ 8 (by kernel_rfl) (by kernel_rfl) (by kernel_rfl) (by kernel_rfl)) ?_
  intro W base args ds gs before hval hW _ _
  exact contract H enc W base args ds gs before hval hW

theorem said : Rows.FnExactTermAtSaid :=
  OpenClaim.holds_of_wide 6 Try.f6 rfl rfl rfl rfl rfl rfl rfl ⟨rfl, rfl, rfl, rfl, rfl⟩ rfl rfl rfl rfl rfl (by kernel_rfl) Try.func6 (by kernel_rfl)
    (of_decide_eq_true (by kernel_rfl)) (by unfold Func.isWrapper; first | (rw [if_pos (by decide +kernel)]; kernel_rfl) | (rw [if_neg (by decide +kernel)]; exact ⟨rfl, rfl⟩))
    (fun os started H enc _ => lifted os started H enc)
end Go.Proofs.Ytjijgagdaolkcaa.fnExactTermAt
